
/- What chapter 6's laws draw. -/
import Derived.Test.YtjpdfkmlcjkcmaaDrawWord
import Derived.Test.YtjpdfkmlcjkcmaaDrawAll
namespace Go.Proofs.Ytjpdfkmlcjkcmaa
open Go.RowKit
set_option linter.unusedVariables false


def DrawnW (w : World) (e : Ending) (w' : World) : Prop := ∃ u, e = .returned (.string (bs u)) ∧ u.length ≤ 40 ∧ Below w.heap.size w w'
def DrawnV (w : World) (e : Ending) (w' : World) : Prop := ∃ A c T u, ∃ x y z : Int, e = .returned (.tuple #[.slice A T.length c, .string (bs u), .int .i64 x, .int .i64 y, .int .i64 z]) ∧ Below w.heap.size w w' ∧ Mat w' w.heap.size w'.heap.size A T ∧ Small T ∧ u.length ≤ 40
theorem bytes_later {w w' : World} {n : Nat} {A : Option Addr} (h : Bytes w w.heap.size A n) (b : Below w.heap.size w w') : Bytes w' w'.heap.size A n := fun j hj => by
  obtain ⟨bb, o, z, e, hlt, hc, hz⟩ := h j hj
  exact ⟨bb, o, z, e, Nat.lt_of_lt_of_le hlt b.size, (b.cell (p := ⟨bb, o + j, none⟩) hlt).trans hc, hz⟩
set_option maxHeartbeats 1000000 in
theorem drawWordOk_any (A : Option Addr) (n c : Nat) (w : World) (h : Bytes w w.heap.size A n) (hc : n ≤ c) (hc2 : c ≤ 9223372036854775807) :
    Calls Try.prog 15 #[.slice A n c] w (DrawnW w) := by
  go_enter Try.func15, Try.ntmps15
  go_wp2_with fail
  refine (open_any A n c w h hc hc2).mono ?_
  rintro e w1 ⟨A1, n1, c1, rfl, b1, s1⟩
  go_wp2_with fail
  refine (word_st 8 2 s1 (by omega) (by omega) (by omega) (by omega) (by omega)).mono ?_
  rintro e w2 ⟨u, P2, rfl, hu, s2, _, _⟩
  go_wp2
  go_ret
  exact ⟨u, rfl, hu, b1.trans (s2.only.below (Nat.le_refl _) b1.size)⟩

set_option maxHeartbeats 1000000 in
theorem drawLettersIn_any (A : Option Addr) (n c : Nat) (w : World) (h : Bytes w w.heap.size A n) (hc : n ≤ c) (hc2 : c ≤ 9223372036854775807) :
    Calls Try.prog 19 #[.slice A n c] w (DrawnW w) := by
  go_enter Try.func19, Try.ntmps19
  go_wp2_with fail
  refine (open_any A n c w h hc hc2).mono ?_
  rintro e w1 ⟨A1, n1, c1, rfl, b1, s1⟩
  go_wp2_with fail
  refine (word_st 10 9 s1 (by omega) (by omega) (by omega) (by omega) (by omega)).mono ?_
  rintro e w2 ⟨u, P2, rfl, hu, s2, _, _⟩
  go_wp2
  go_ret
  exact ⟨u, rfl, hu, b1.trans (s2.only.below (Nat.le_refl _) b1.size)⟩

set_option maxHeartbeats 1000000 in
theorem drawHeadOf_any (A : Option Addr) (n c : Nat) (w : World) (h : Bytes w w.heap.size A n) (hc : n ≤ c) (hc2 : c ≤ 9223372036854775807) :
    Calls Try.prog 23 #[.slice A n c] w (DrawnW w) := by
  go_enter Try.func23, Try.ntmps23
  go_wp2_with fail
  refine (open_any A n c w h hc hc2).mono ?_
  rintro e w1 ⟨A1, n1, c1, rfl, b1, s1⟩
  go_wp2_with fail
  refine (word_st 10 9 s1 (by omega) (by omega) (by omega) (by omega) (by omega)).mono ?_
  rintro e w2 ⟨u, P2, rfl, hu, s2, _, _⟩
  go_wp2
  go_ret
  exact ⟨u, rfl, hu, b1.trans (s2.only.below (Nat.le_refl _) b1.size)⟩

set_option maxHeartbeats 1000000 in
theorem drawRoundOf_any (A : Option Addr) (n c : Nat) (w : World) (h : Bytes w w.heap.size A n) (hc : n ≤ c) (hc2 : c ≤ 9223372036854775807) :
    Calls Try.prog 26 #[.slice A n c] w (DrawnW w) := by
  go_enter Try.func26, Try.ntmps26
  go_wp2_with fail
  refine (open_any A n c w h hc hc2).mono ?_
  rintro e w1 ⟨A1, n1, c1, rfl, b1, s1⟩
  go_wp2_with fail
  refine (word_st 12 9 s1 (by omega) (by omega) (by omega) (by omega) (by omega)).mono ?_
  rintro e w2 ⟨u, P2, rfl, hu, s2, _, _⟩
  go_wp2
  go_ret
  exact ⟨u, rfl, hu, b1.trans (s2.only.below (Nat.le_refl _) b1.size)⟩

set_option maxHeartbeats 1000000 in
theorem drawTailOf_any (A : Option Addr) (n c : Nat) (w : World) (h : Bytes w w.heap.size A n) (hc : n ≤ c) (hc2 : c ≤ 9223372036854775807) :
    Calls Try.prog 28 #[.slice A n c] w (DrawnW w) := by
  go_enter Try.func28, Try.ntmps28
  go_wp2_with fail
  refine (open_any A n c w h hc hc2).mono ?_
  rintro e w1 ⟨A1, n1, c1, rfl, b1, s1⟩
  go_wp2_with fail
  refine (word_st 10 9 s1 (by omega) (by omega) (by omega) (by omega) (by omega)).mono ?_
  rintro e w2 ⟨u, P2, rfl, hu, s2, _, _⟩
  go_wp2
  go_ret
  exact ⟨u, rfl, hu, b1.trans (s2.only.below (Nat.le_refl _) b1.size)⟩

set_option maxHeartbeats 2000000 in
theorem drawValueIn_any (A : Option Addr) (n c : Nat) (w : World) (h : Bytes w w.heap.size A n) (hc : n ≤ c) (hc2 : c ≤ 9223372036854775807) :
    Calls Try.prog 31 #[.slice A n c] w (DrawnV w) := by
  go_enter Try.func31, Try.ntmps31
  go_wp2_with fail
  refine (open_any A n c w h hc hc2).mono ?_
  rintro e w1 ⟨A1, n1, c1, rfl, b1, s1⟩
  go_wp2_with fail
  refine (table_st 14 s1 (by omega) (by omega) (by omega)).mono ?_
  rintro e w2 ⟨A2, c2, T, P2, rfl, m2, hS, s2, hP2, hT9⟩
  have hlT := hS.len
  have z2 := s2.only.size
  obtain ⟨M, hM, hM1, hM9⟩ : ∃ M : Int, M = (if (1 : Int) > (T.length : Int) then 1 else (T.length : Int)) ∧ 1 ≤ M ∧ M ≤ 9 := ⟨_, rfl, by split <;> omega, by split <;> omega⟩
  by_cases h0 : (1 : Int) > (T.length : Int)
  all_goals
    simp only [h0, if_true, if_false] at hM
    go_wp2_with fail
    refine (word_st 8 14 s2 (by omega) (by omega) (by omega) (by omega) (by omega)).mono ?_
    rintro e w3 ⟨u, P3, rfl, hu, s3, hP3, o3⟩
    go_wp2_with fail
    refine (pick_st _ s3 (by omega) (by omega) (by omega)).mono ?_
    rintro e_ w4 ⟨x, rfl, hk4, s4, o4⟩
    go_wp2_with fail
    refine (pick_st _ s4 (by omega) (by omega) (by omega)).mono ?_
    rintro e_ w5 ⟨y, rfl, hk5, s5, o5⟩
    go_wp2_with fail
    refine (pick_st _ s5 (by omega) (by omega) (by omega)).mono ?_
    rintro e_ w6 ⟨z, rfl, hk6, s6, o6⟩
    go_wp2_with fail
    refine (pick_st 40 s6 (by omega) (by omega) (by omega)).mono ?_
    rintro e_ w7 ⟨q, rfl, hk7, s7, o7⟩
    have z3 := o3.size
    have z4 := o4.size
    have z5 := o5.size
    have z6 := o6.size
    have z7 := o7.size
    have hl1 := s1.lt
    have m3 := m2.only o3 (by omega) (by omega)
    have m4 := m3.only o4 (by omega) (by omega)
    have m5 := m4.only o5 (by omega) (by omega)
    have m6 := m5.only o6 (by omega) (by omega)
    have m7 := m6.only o7 (by omega) (by omega)
    obtain ⟨q1, q2, q3, q4⟩ := wrap_quo (q : Int) 39 (by omega) (by omega) (by omega)
    have q5 : 0 ≤ (q : Int) / 39 := by omega
    have q6 : (q : Int) / 39 ≤ 1 := by omega
    have fin : DrawnV w (.returned (.tuple #[.slice A2 T.length c2, .string (bs u), .int .i64 (x : Int), .int .i64 (y : Int), .int .i64 ((z : Int) + (q : Int) / 39 * 9)])) w7 :=
      ⟨A2, c2, T, u, _, _, _, rfl, b1.trans (s7.only.below (Nat.le_refl _) b1.size), m7.mono b1.size (by omega), hS, hu⟩
    have FIN := hide fin
    clear fin hM
    go_wp2
    refine bodyPost_ret (by simp [results, Try.results31, go_sem]; rfl) rfl ?_
    exact FIN.out
end Go.Proofs.Ytjpdfkmlcjkcmaa
