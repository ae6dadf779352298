
/- The tables that the bands' laws draw. -/
import Derived.Test.YtcegjiiondmchabDrawAll
namespace Go.Proofs.Ytcegjiiondmchab
open Go.RowKit
set_option linter.unusedVariables false

set_option maxHeartbeats 1000000 in
theorem drawBandOk_any (A : Option Addr) (n c : Nat) (w : World) (h : Bytes w w.heap.size A n) (hc : n ≤ c) (hc2 : c ≤ 9223372036854775807) :
    Calls Try.prog 15 #[.slice A n c] w (Drawn w) := by
  go_enter Try.func15, Try.ntmps15
  go_wp2_with fail
  refine (open_any A n c w h hc hc2).mono ?_
  rintro e w1 ⟨A1, n1, c1, rfl, b1, s1⟩
  go_wp2_with fail
  refine (table_st 6 s1 (by omega) (by omega) (by omega)).mono ?_
  rintro e w2 ⟨A2, c2, T, P2, rfl, hM, hS, s2, _⟩
  go_wp2
  go_ret
  exact ⟨A2, c2, T, rfl, b1.trans (s2.only.below (Nat.le_refl _) b1.size), hM.mono b1.size (Nat.le_refl _), hS⟩

set_option maxHeartbeats 1000000 in
theorem drawMeetingOk_any (A : Option Addr) (n c : Nat) (w : World) (h : Bytes w w.heap.size A n) (hc : n ≤ c) (hc2 : c ≤ 9223372036854775807) :
    Calls Try.prog 18 #[.slice A n c] w (Drawn w) := by
  go_enter Try.func18, Try.ntmps18
  go_wp2_with fail
  refine (open_any A n c w h hc hc2).mono ?_
  rintro e w1 ⟨A1, n1, c1, rfl, b1, s1⟩
  go_wp2_with fail
  refine (table_st 9 s1 (by omega) (by omega) (by omega)).mono ?_
  rintro e w2 ⟨A2, c2, T, P2, rfl, hM, hS, s2, _⟩
  go_wp2
  go_ret
  exact ⟨A2, c2, T, rfl, b1.trans (s2.only.below (Nat.le_refl _) b1.size), hM.mono b1.size (Nat.le_refl _), hS⟩

set_option maxHeartbeats 1000000 in
theorem drawLeftOk_any (A : Option Addr) (n c : Nat) (w : World) (h : Bytes w w.heap.size A n) (hc : n ≤ c) (hc2 : c ≤ 9223372036854775807) :
    Calls Try.prog 28 #[.slice A n c] w (Drawn w) := by
  go_enter Try.func28, Try.ntmps28
  go_wp2_with fail
  refine (open_any A n c w h hc hc2).mono ?_
  rintro e w1 ⟨A1, n1, c1, rfl, b1, s1⟩
  go_wp2_with fail
  refine (table_st 9 s1 (by omega) (by omega) (by omega)).mono ?_
  rintro e w2 ⟨A2, c2, T, P2, rfl, hM, hS, s2, _⟩
  go_wp2
  go_ret
  exact ⟨A2, c2, T, rfl, b1.trans (s2.only.below (Nat.le_refl _) b1.size), hM.mono b1.size (Nat.le_refl _), hS⟩

set_option maxHeartbeats 1000000 in
theorem drawRightOk_any (A : Option Addr) (n c : Nat) (w : World) (h : Bytes w w.heap.size A n) (hc : n ≤ c) (hc2 : c ≤ 9223372036854775807) :
    Calls Try.prog 30 #[.slice A n c] w (Drawn w) := by
  go_enter Try.func30, Try.ntmps30
  go_wp2_with fail
  refine (open_any A n c w h hc hc2).mono ?_
  rintro e w1 ⟨A1, n1, c1, rfl, b1, s1⟩
  go_wp2_with fail
  refine (table_st 9 s1 (by omega) (by omega) (by omega)).mono ?_
  rintro e w2 ⟨A2, c2, T, P2, rfl, hM, hS, s2, _⟩
  go_wp2
  go_ret
  exact ⟨A2, c2, T, rfl, b1.trans (s2.only.below (Nat.le_refl _) b1.size), hM.mono b1.size (Nat.le_refl _), hS⟩

set_option maxHeartbeats 1000000 in
theorem drawZeroOf_any (A : Option Addr) (n c : Nat) (w : World) (h : Bytes w w.heap.size A n) (hc : n ≤ c) (hc2 : c ≤ 9223372036854775807) :
    Calls Try.prog 34 #[.slice A n c] w (Drawn w) := by
  go_enter Try.func34, Try.ntmps34
  go_wp2_with fail
  refine (open_any A n c w h hc hc2).mono ?_
  rintro e w1 ⟨A1, n1, c1, rfl, b1, s1⟩
  go_wp2_with fail
  refine (table_st 9 s1 (by omega) (by omega) (by omega)).mono ?_
  rintro e w2 ⟨A2, c2, T, P2, rfl, hM, hS, s2, _⟩
  go_wp2
  go_ret
  exact ⟨A2, c2, T, rfl, b1.trans (s2.only.below (Nat.le_refl _) b1.size), hM.mono b1.size (Nat.le_refl _), hS⟩

set_option maxHeartbeats 1000000 in
theorem drawOneOf_any (A : Option Addr) (n c : Nat) (w : World) (h : Bytes w w.heap.size A n) (hc : n ≤ c) (hc2 : c ≤ 9223372036854775807) :
    Calls Try.prog 37 #[.slice A n c] w (Drawn w) := by
  go_enter Try.func37, Try.ntmps37
  go_wp2_with fail
  refine (open_any A n c w h hc hc2).mono ?_
  rintro e w1 ⟨A1, n1, c1, rfl, b1, s1⟩
  go_wp2_with fail
  refine (table_st 9 s1 (by omega) (by omega) (by omega)).mono ?_
  rintro e w2 ⟨A2, c2, T, P2, rfl, hM, hS, s2, _⟩
  go_wp2
  go_ret
  exact ⟨A2, c2, T, rfl, b1.trans (s2.only.below (Nat.le_refl _) b1.size), hM.mono b1.size (Nat.le_refl _), hS⟩

set_option maxHeartbeats 1000000 in
theorem drawFirstOk_any (A : Option Addr) (n c : Nat) (w : World) (h : Bytes w w.heap.size A n) (hc : n ≤ c) (hc2 : c ≤ 9223372036854775807) :
    Calls Try.prog 23 #[.slice A n c] w (Drawn w) := by
  go_enter Try.func23, Try.ntmps23
  go_wp2_with fail
  refine (open_any A n c w h hc hc2).mono ?_
  rintro e w1 ⟨A1, n1, c1, rfl, b1, s1⟩
  have hg := s1.lt
  go_wp2_with fail
  refine (pick_st 3 s1 (by omega) (by omega) (by omega)).mono ?_
  rintro e w2 ⟨k, rfl, hk, s2, o2⟩
  by_cases h0 : k = 0
  · subst h0
    go_wp2_with fail
    refine (pick_st 5 s2 (by omega) (by omega) (by omega)).mono ?_
    rintro e w3 ⟨k3, rfl, hk3, s3, o3⟩
    go_wp2_with fail
    refine (left_st _ s3 (by omega) (by omega)).mono ?_
    rintro e w4 ⟨A4, c4, rfl, t4, s4, o4⟩
    obtain ⟨T, hT, rT⟩ := t4.mat
    have fin : Drawn w (.returned (.slice A4 (1 + (k3 : Int)).toNat c4)) w4 :=
      ⟨A4, c4, T, by rw [rT.len], b1.trans (s4.only.below (Nat.le_refl _) b1.size), hT.mono b1.size (Nat.le_refl _), rT.small (by omega) (by omega)⟩
    have FIN := hide fin
    clear fin
    go_wp2
    go_ret
    exact FIN.out
  · have hkb : ((k : Int) == 0) = false := beq_eq_false_iff_ne.2 (by omega)
    go_wp2_with fail
    refine (table_st 9 s2 (by omega) (by omega) (by omega)).mono ?_
    rintro e w3 ⟨A3, c3, T, P3, rfl, hM, hS, s3, hP3⟩
    go_wp2
    go_ret
    exact ⟨A3, c3, T, rfl, b1.trans (s3.only.below (Nat.le_refl _) b1.size), hM.mono b1.size (Nat.le_refl _), hS⟩

/-- A table of two things, written out. -/
theorem lit2 {W : World} {k : Nat} (a b c d : Int) (hk : W.heap.size = k) :
    Mat (((W.alloc (.cells #[.int .i64 a, .int .i64 b] 3)).alloc (.cells #[.int .i64 c, .int .i64 d] 3)).alloc (.cells #[.slice (some ⟨k, 0, none⟩) 2 2, .slice (some ⟨k + 1, 0, none⟩) 2 2] 28)) k (k + 3) (some ⟨k + 2, 0, none⟩) [[a, b], [c, d]] := fun i hi => by
  subst hk
  have e1 := heap_alloc_new W (.cells #[.int .i64 a, .int .i64 b] 3)
  have hs : (W.alloc (.cells #[.int .i64 a, .int .i64 b] 3)).heap.size = W.heap.size + 1 := by simp
  have e2 := heap_alloc_new (W.alloc (.cells #[.int .i64 a, .int .i64 b] 3)) (.cells #[.int .i64 c, .int .i64 d] 3)
  rw [hs] at e2
  have e12 := (Below.heap_alloc (W.alloc (.cells #[.int .i64 a, .int .i64 b] 3)) (.cells #[.int .i64 c, .int .i64 d] 3) W.heap.size (by omega)).trans e1
  have hs2 : ((W.alloc (.cells #[.int .i64 a, .int .i64 b] 3)).alloc (.cells #[.int .i64 c, .int .i64 d] 3)).heap.size = W.heap.size + 2 := by simp
  have e3 := heap_alloc_new ((W.alloc (.cells #[.int .i64 a, .int .i64 b] 3)).alloc (.cells #[.int .i64 c, .int .i64 d] 3)) (.cells #[.slice (some ⟨W.heap.size, 0, none⟩) 2 2, .slice (some ⟨W.heap.size + 1, 0, none⟩) 2 2] 28)
  rw [hs2] at e3
  have e13 := (Below.heap_alloc ((W.alloc (.cells #[.int .i64 a, .int .i64 b] 3)).alloc (.cells #[.int .i64 c, .int .i64 d] 3)) (.cells #[.slice (some ⟨W.heap.size, 0, none⟩) 2 2, .slice (some ⟨W.heap.size + 1, 0, none⟩) 2 2] 28) W.heap.size (by omega)).trans e12
  have e23 := (Below.heap_alloc ((W.alloc (.cells #[.int .i64 a, .int .i64 b] 3)).alloc (.cells #[.int .i64 c, .int .i64 d] 3)) (.cells #[.slice (some ⟨W.heap.size, 0, none⟩) 2 2, .slice (some ⟨W.heap.size + 1, 0, none⟩) 2 2] 28) (W.heap.size + 1) (by omega)).trans e2
  have hi2 : i < 2 := by simpa using hi
  rcases (by omega : i = 0 ∨ i = 1) with rfl | rfl
  · refine ⟨W.heap.size + 2, 0, some ⟨W.heap.size, 0, none⟩, 2, rfl, by omega, by omega, by rw [cell_of_row _ _ _ _ _ _ e3]; rfl, fun j hj => ?_⟩
    have hj2 : j < 2 := by simpa [rw_] using hj
    rcases (by omega : j = 0 ∨ j = 1) with rfl | rfl
    · exact ⟨W.heap.size, 0, rfl, by omega, by omega, by rw [cell_of_row _ _ _ _ _ _ e13]; rfl⟩
    · exact ⟨W.heap.size, 0, rfl, by omega, by omega, by rw [cell_of_row _ _ _ _ _ _ e13]; rfl⟩
  · refine ⟨W.heap.size + 2, 0, some ⟨W.heap.size + 1, 0, none⟩, 2, rfl, by omega, by omega, by rw [cell_of_row _ _ _ _ _ _ e3]; rfl, fun j hj => ?_⟩
    have hj2 : j < 2 := by simpa [rw_] using hj
    rcases (by omega : j = 0 ∨ j = 1) with rfl | rfl
    · exact ⟨W.heap.size + 1, 0, rfl, by omega, by omega, by rw [cell_of_row _ _ _ _ _ _ e23]; rfl⟩
    · exact ⟨W.heap.size + 1, 0, rfl, by omega, by omega, by rw [cell_of_row _ _ _ _ _ _ e23]; rfl⟩
theorem small2 (a b c d : Int) : Small [[a, b], [c, d]] := ⟨by simp, fun i hi => by
  have hi2 : i < 2 := by simpa using hi
  rcases (by omega : i = 0 ∨ i = 1) with rfl | rfl <;> simp [rw_]⟩
/-- A row of numbers, written out. -/
theorem row_lit {W : World} {xs : List Int} (cs : Array Value) (hc : cs = (xs.map (Value.int .i64)).toArray) : Row (W.alloc (.cells cs 3)) W.heap.size (W.heap.size + 1) (some ⟨W.heap.size, 0, none⟩) xs := fun j hj => by
  subst hc
  have e1 := heap_alloc_new W (.cells (xs.map (Value.int .i64)).toArray 3)
  exact ⟨W.heap.size, 0, rfl, Nat.le_refl _, by omega, by rw [cell_of_row _ _ _ _ _ _ e1]; simp [hj, el, List.getD]⟩
end Go.Proofs.Ytcegjiiondmchab
