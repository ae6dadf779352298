
/- What chapter 8's laws draw. -/
import Derived.Test.YtjmjfmgbfjmaaaaDrawOrds
namespace Go.Proofs.Ytjmjfmgbfjmaaaa
open Go.RowKit
set_option linter.unusedVariables false


/-- A number is drawn. -/
def DrawnI (lo hi : Int) (w : World) (e : Ending) (w' : World) : Prop := ∃ x : Int, e = .returned (.int .i64 x) ∧ lo ≤ x ∧ x ≤ hi ∧ Below w.heap.size w w'
set_option maxHeartbeats 1000000 in
theorem drawFullWords_any (A : Option Addr) (n c : Nat) (w : World) (h : Bytes w w.heap.size A n) (hc : n ≤ c) (hc2 : c ≤ 9223372036854775807) :
    Calls Try.prog 13 #[.slice A n c] w (DrawnI (-1) 8 w) := by
  go_enter Try.func13, Try.ntmps13
  go_wp2_with fail
  refine (open_any A n c w h hc hc2).mono ?_
  rintro e w1 ⟨A1, n1, c1, rfl, b1, s1⟩
  go_wp2_with fail
  refine (pick_st 10 s1 (by omega) (by omega) (by omega)).mono ?_
  rintro e w2 ⟨x, rfl, hx, s2, o2⟩
  have z2 := o2.size
  go_wp2
  go_ret
  exact ⟨((x : Int) - 1), rfl, by omega, by omega, b1.trans (o2.below (by first | exact s1.lo | omega | exact Nat.le_refl _) b1.size)⟩
set_option maxHeartbeats 1000000 in
theorem drawAllWords_any (A : Option Addr) (n c : Nat) (w : World) (h : Bytes w w.heap.size A n) (hc : n ≤ c) (hc2 : c ≤ 9223372036854775807) :
    Calls Try.prog 21 #[.slice A n c] w (DrawnI (0) 4 w) := by
  go_enter Try.func21, Try.ntmps21
  go_wp2_with fail
  refine (open_any A n c w h hc hc2).mono ?_
  rintro e w1 ⟨A1, n1, c1, rfl, b1, s1⟩
  go_wp2_with fail
  refine (pick_st 5 s1 (by omega) (by omega) (by omega)).mono ?_
  rintro e w2 ⟨x, rfl, hx, s2, o2⟩
  have z2 := o2.size
  go_wp2
  go_ret
  exact ⟨(x : Int), rfl, by omega, by omega, b1.trans (o2.below (by first | exact s1.lo | omega | exact Nat.le_refl _) b1.size)⟩
set_option maxHeartbeats 1000000 in
theorem drawCountFull_any (A : Option Addr) (n c : Nat) (w : World) (h : Bytes w w.heap.size A n) (hc : n ≤ c) (hc2 : c ≤ 9223372036854775807) :
    Calls Try.prog 24 #[.slice A n c] w (DrawnI (-1) 4 w) := by
  go_enter Try.func24, Try.ntmps24
  go_wp2_with fail
  refine (open_any A n c w h hc hc2).mono ?_
  rintro e w1 ⟨A1, n1, c1, rfl, b1, s1⟩
  go_wp2_with fail
  refine (pick_st 6 s1 (by omega) (by omega) (by omega)).mono ?_
  rintro e w2 ⟨x, rfl, hx, s2, o2⟩
  have z2 := o2.size
  go_wp2
  go_ret
  exact ⟨((x : Int) - 1), rfl, by omega, by omega, b1.trans (o2.below (by first | exact s1.lo | omega | exact Nat.le_refl _) b1.size)⟩
set_option maxHeartbeats 1000000 in
theorem drawFreeTable_any (A : Option Addr) (n c : Nat) (w : World) (h : Bytes w w.heap.size A n) (hc : n ≤ c) (hc2 : c ≤ 9223372036854775807) :
    Calls Try.prog 26 #[.slice A n c] w (DrawnI (0) 3 w) := by
  go_enter Try.func26, Try.ntmps26
  go_wp2_with fail
  refine (open_any A n c w h hc hc2).mono ?_
  rintro e w1 ⟨A1, n1, c1, rfl, b1, s1⟩
  go_wp2_with fail
  refine (pick_st 4 s1 (by omega) (by omega) (by omega)).mono ?_
  rintro e w2 ⟨x, rfl, hx, s2, o2⟩
  have z2 := o2.size
  go_wp2
  go_ret
  exact ⟨(x : Int), rfl, by omega, by omega, b1.trans (o2.below (by first | exact s1.lo | omega | exact Nat.le_refl _) b1.size)⟩
set_option maxHeartbeats 1000000 in
theorem drawPictureIn_any (A : Option Addr) (n c : Nat) (w : World) (h : Bytes w w.heap.size A n) (hc : n ≤ c) (hc2 : c ≤ 9223372036854775807) :
    Calls Try.prog 33 #[.slice A n c] w (DrawnT w) := by
  go_enter Try.func33, Try.ntmps33
  go_wp2_with fail
  refine (open_any A n c w h hc hc2).mono ?_
  rintro e w1 ⟨A1, n1, c1, rfl, b1, s1⟩
  go_wp2_with fail
  refine (two_any _ _ _ _ _ _ _ s1.rd (by omega)).mono ?_
  intro e w2 hD
  obtain ⟨A2, c2, T, x, y, rfl, B2, hM, hS⟩ := drawTwo3 w w1 b1 hD
  go_wp2
  refine bodyPost_ret (results_tmp3 rfl _ _ _) rfl ?_
  exact ⟨A2, c2, T, x, y, rfl, B2, hM, hS⟩
end Go.Proofs.Ytjmjfmgbfjmaaaa
