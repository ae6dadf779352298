
/- Tables of pairs: the program's. -/
import Derived.Test.YtaceakfbkhkopaaGrp
import Derived.Test.YtaceakfbkhkopaaSgrp
import Derived.Test.YtaceakfbkhkopaaFill
import Derived.Test.YtaceakfbkhkopaaTurn
import Derived.Deep.RegionHeld3
namespace Go.Proofs.Ytaceakfbkhkopaa
open Go.RowKit
set_option linter.unusedVariables false


theorem wrapQ (x y : Int) (hx : 0 ≤ x) (hx2 : x ≤ 1000000) (hy : 1 ≤ y) : IntKind.i64.wrap (x / y) = x / y ∧ IntKind.i64.wrap (x.tdiv y) = x / y ∧ x.tdiv y = x / y ∧ x.tmod y = x % y := by
  have hd : x.tdiv y = x / y := Int.tdiv_eq_ediv_of_nonneg hx
  have h1 : 0 ≤ x / y := Int.ediv_nonneg hx (by omega)
  have h2 : x / y ≤ x := Int.ediv_le_self _ hx
  have e : IntKind.i64.wrap (x / y) = x / y := IntWalk.i64_in _ ⟨by omega, by omega⟩
  exact ⟨e, by rw [hd]; exact e, hd, Int.tmod_eq_emod_of_nonneg hx⟩
theorem divIn {p n m : Nat} (h1 : 1 ≤ m) (hp : p < n * m) : 0 ≤ (p : Int) / (m : Int) ∧ (p : Int) / (m : Int) < n := by
  rw [div_int]; exact ⟨Int.natCast_nonneg _, Int.ofNat_lt.2 (Nat.div_lt_of_lt_mul (by rw [Nat.mul_comm]; exact hp))⟩
theorem mulB {a b : Int} (a0 : 0 ≤ a) (a9 : a ≤ 9) (b0 : 0 ≤ b) (b9 : b ≤ 9) : 0 ≤ a * b ∧ a * b ≤ 81 :=
  ⟨Int.mul_nonneg a0 b0, Int.le_trans (Int.mul_le_mul a9 b9 b0 (by omega)) (by omega)⟩

/-- The product of two pairs, each counted as one number. -/
def pairM (T U : List (List Int)) (x y : Nat) : Int := mul T ((x : Int) / (U.length : Int)) ((y : Int) / (U.length : Int)) * (U.length : Int) + mul U ((x : Int) % (U.length : Int)) ((y : Int) % (U.length : Int))

set_option maxHeartbeats 4000000 in
theorem times1_any (A A2 : Option Addr) (c c2 lo hi lo2 hi2 g1 g2 g3 : Nat) (T U : List (List Int)) (x y : Nat) (w : World) (h : Mat w lo hi A T) (hh : hi ≤ w.heap.size) (h2 : Mat w lo2 hi2 A2 U) (hh2 : hi2 ≤ w.heap.size) (k : IsT T) (k2 : IsT U)
    (q1 : w.cell? ⟨g1, 0, none⟩ = some (.slice A T.length c)) (q2 : w.cell? ⟨g2, 0, none⟩ = some (.int .i64 (U.length : Nat))) (q3 : w.cell? ⟨g3, 0, none⟩ = some (.slice A2 U.length c2)) (hx : x < T.length * U.length) (hy : y < T.length * U.length) :
    Calls Try.prog 52 #[.int .i64 x, .int .i64 y, .pointer (some ⟨g1, 0, none⟩), .pointer (some ⟨g2, 0, none⟩), .pointer (some ⟨g3, 0, none⟩)] w fun e w' => e = .returned (.int .i64 (pairM T U x y)) ∧ Below w.heap.size w w' := by
  have u1 := k2.lo
  have u9 := k2.hi
  have t9 := k.hi
  have hx81 : x ≤ 81 := by have : T.length * U.length ≤ 9 * 9 := Nat.mul_le_mul t9 u9; omega
  have hy81 : y ≤ 81 := by have : T.length * U.length ≤ 9 * 9 := Nat.mul_le_mul t9 u9; omega
  obtain ⟨a0, a1⟩ := divIn u1 hx
  obtain ⟨b0, b1⟩ := divIn u1 hy
  have d0 : 0 ≤ (x : Int) % (U.length : Int) := Int.emod_nonneg _ (by omega)
  have d1 : (x : Int) % (U.length : Int) < (U.length : Int) := Int.emod_lt_of_pos _ (by omega)
  have e0 : 0 ≤ (y : Int) % (U.length : Int) := Int.emod_nonneg _ (by omega)
  have e1 : (y : Int) % (U.length : Int) < (U.length : Int) := Int.emod_lt_of_pos _ (by omega)
  obtain ⟨v0, v1⟩ := k.mul a0 a1 b0 b1
  obtain ⟨w0, w1⟩ := k2.mul d0 d1 e0 e1
  obtain ⟨m0, m1⟩ := mulB v0 (by omega) (by omega : (0 : Int) ≤ (U.length : Int)) (by omega)
  have l1 := World.block_lt_of_cell? _ _ q1
  have l2 := World.block_lt_of_cell? _ _ q2
  have l3 := World.block_lt_of_cell? _ _ q3
  have MK := hide (fun (W : World) (hW' : Below w.heap.size w W) =>
    (⟨(hW'.cell (p := ⟨g1, 0, none⟩) l1).trans q1, (hW'.cell (p := ⟨g2, 0, none⟩) l2).trans q2, (hW'.cell (p := ⟨g3, 0, none⟩) l3).trans q3, hW'⟩ :
      W.cell? ⟨g1, 0, none⟩ = some (.slice A T.length c) ∧ W.cell? ⟨g2, 0, none⟩ = some (.int .i64 (U.length : Nat)) ∧ W.cell? ⟨g3, 0, none⟩ = some (.slice A2 U.length c2) ∧ Below w.heap.size w W))
  obtain ⟨r1, r2, r3, r4⟩ := wrapQ (x : Int) (U.length : Int) (by omega) (by omega) (by omega)
  obtain ⟨s1, s2, s3, s4⟩ := wrapQ (y : Int) (U.length : Int) (by omega) (by omega) (by omega)
  have hm3 : ¬ U.length = 0 := by omega
  have hm5 : ¬ U = [] := fun e => by subst e; exact hm3 rfl
  go_enter Try.func52, Try.ntmps52
  go_wp2_with fail
  go_region_held3 (fun W => W.cell? ⟨g1, 0, none⟩ = some (.slice A T.length c) ∧ W.cell? ⟨g2, 0, none⟩ = some (.int .i64 (U.length : Nat)) ∧ W.cell? ⟨g3, 0, none⟩ = some (.slice A2 U.length c2) ∧ Below w.heap.size w W)
    (first
      | exact MK.out _ ((Below.refl _ _).drew)
      | (go_split_ands
         exact MK.out _ (Below.trans (by assumption) (Below.mono (by assumption) (Below.size (by assumption))))))
    (first
      | (go_at_call 53
         refine (product_any _ _ lo hi T _ _ _ ?_ ?_ k a0 a1 b0 b1).mono ?_
         · go_split_ands
           exact h.below (B := w.heap.size) (by assumption) hh
         · go_split_ands
           exact Nat.le_trans hh (Below.size (by assumption))
         rintro e wj ⟨rfl, hbj⟩))
  rename_i hHeld
  obtain ⟨_, _, _, hB1⟩ := hHeld
  go_wp2_with fail
  go_region_held3 (fun W => W.cell? ⟨g1, 0, none⟩ = some (.slice A T.length c) ∧ W.cell? ⟨g2, 0, none⟩ = some (.int .i64 (U.length : Nat)) ∧ W.cell? ⟨g3, 0, none⟩ = some (.slice A2 U.length c2) ∧ Below w.heap.size w W)
    (first
      | exact MK.out _ hB1.drew
      | (go_split_ands
         exact MK.out _ (Below.trans (by assumption) (Below.mono (by assumption) (Below.size (by assumption))))))
    (first
      | (go_at_call 53
         refine (product_any _ _ lo2 hi2 U _ _ _ ?_ ?_ k2 d0 d1 e0 e1).mono ?_
         · go_split_ands
           exact h2.below (B := w.heap.size) (by assumption) hh2
         · go_split_ands
           exact Nat.le_trans hh2 (Below.size (by assumption))
         rintro e wj2 ⟨rfl, hbj2⟩))
  rename_i hHeld2
  obtain ⟨_, q2f, _, hB2⟩ := hHeld2
  go_wp2
  go_ret
  exact ⟨rfl, hB2⟩
end Go.Proofs.Ytaceakfbkhkopaa
