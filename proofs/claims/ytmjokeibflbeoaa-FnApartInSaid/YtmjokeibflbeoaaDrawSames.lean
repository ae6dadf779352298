
/- What chapter 7's laws draw. -/
import Derived.Test.YtmjokeibflbeoaaDrawPair
import Derived.Test.YtmjokeibflbeoaaDrawWords
import Derived.Test.YtmjokeibflbeoaaDrawAll
namespace Go.Proofs.Ytmjokeibflbeoaa
open Go.RowKit
set_option linter.unusedVariables false


def DrawnP (w : World) (e : Ending) (w' : World) : Prop := ∃ u v, e = .returned (.tuple #[.string (bs u), .string (bs v)]) ∧ u.length ≤ 100 ∧ v.length ≤ 100 ∧ Below w.heap.size w w'
def DrawnA (w : World) (e : Ending) (w' : World) : Prop := ∃ A c T u v, e = .returned (.tuple #[.slice A T.length c, .string (bs u), .string (bs v)]) ∧ Below w.heap.size w w' ∧ Mat w' w.heap.size w'.heap.size A T ∧ Small T ∧ u.length ≤ 100 ∧ v.length ≤ 100
set_option maxHeartbeats 1000000 in
theorem drawSameWords_any (A : Option Addr) (n c : Nat) (w : World) (h : Bytes w w.heap.size A n) (hc : n ≤ c) (hc2 : c ≤ 9223372036854775807) :
    Calls Try.prog 11 #[.slice A n c] w (DrawnP w) := by
  go_enter Try.func11, Try.ntmps11
  go_wp2_with fail
  refine (open_any A n c w h hc hc2).mono ?_
  rintro e w1 ⟨A1, n1, c1, rfl, b1, s1⟩
  go_wp2_with fail
  refine (pair_st s1 (by omega)).mono ?_
  rintro e w2 ⟨u, v, P2, rfl, hu, hv, s2, _, _⟩
  go_wp2
  go_ret2
  exact ⟨u, v, rfl, by omega, hv, b1.trans (s2.only.below (Nat.le_refl _) b1.size)⟩
set_option maxHeartbeats 1000000 in
theorem drawMadeOf_any (A : Option Addr) (n c : Nat) (w : World) (h : Bytes w w.heap.size A n) (hc : n ≤ c) (hc2 : c ≤ 9223372036854775807) :
    Calls Try.prog 18 #[.slice A n c] w (DrawnW w) := by
  go_enter Try.func18, Try.ntmps18
  go_wp2_with fail
  refine (open_any A n c w h hc hc2).mono ?_
  rintro e w1 ⟨A1, n1, c1, rfl, b1, s1⟩
  go_wp2_with fail
  refine (word_st 12 9 s1 (by omega) (by omega) (by omega) (by omega) (by omega)).mono ?_
  rintro e w2 ⟨u, P2, rfl, hu, s2, _, _⟩
  go_wp2
  go_ret
  exact ⟨u, rfl, hu, b1.trans (s2.only.below (Nat.le_refl _) b1.size)⟩
set_option maxHeartbeats 1000000 in
theorem drawJoinedOf_any (A : Option Addr) (n c : Nat) (w : World) (h : Bytes w w.heap.size A n) (hc : n ≤ c) (hc2 : c ≤ 9223372036854775807) :
    Calls Try.prog 21 #[.slice A n c] w (DrawnP w) := by
  go_enter Try.func21, Try.ntmps21
  go_wp2_with fail
  refine (open_any A n c w h hc hc2).mono ?_
  rintro e w1 ⟨A1, n1, c1, rfl, b1, s1⟩
  go_wp2_with fail
  refine (word_st 6 12 s1 (by omega) (by omega) (by omega) (by omega) (by omega)).mono ?_
  rintro e w2 ⟨u, P2, rfl, hu, s2, hP2, _⟩
  go_wp2_with fail
  refine (word_st 14 14 s2 (by omega) (by omega) (by omega) (by omega) (by omega)).mono ?_
  rintro e w3 ⟨v, P3, rfl, hv, s3, _, _⟩
  go_wp2
  go_ret2
  exact ⟨u, v, rfl, by omega, by omega, b1.trans (s3.only.below (Nat.le_refl _) b1.size)⟩
set_option maxHeartbeats 2000000 in
theorem drawApartIn_any (A : Option Addr) (n c : Nat) (w : World) (h : Bytes w w.heap.size A n) (hc : n ≤ c) (hc2 : c ≤ 9223372036854775807) :
    Calls Try.prog 24 #[.slice A n c] w (DrawnA w) := by
  go_enter Try.func24, Try.ntmps24
  go_wp2_with fail
  refine (open_any A n c w h hc hc2).mono ?_
  rintro e w1 ⟨A1, n1, c1, rfl, b1, s1⟩
  go_wp2_with fail
  refine (band_any _ _ _ _ _ _ 14 _ s1.rd (by omega) (by omega) (by omega)).mono ?_
  rintro e w2 ⟨A2, c2, T, P2, rfl, m2, hS, s2, hP2, hT9⟩
  have hg := s1.lt
  go_wp2_with fail
  refine (pair_st s2 (by omega)).mono ?_
  rintro e w3 ⟨u, v, P3, rfl, hu, hv, s3, _, o3⟩
  have m3 := m2.only o3 (by omega) (by omega)
  have z3 := o3.size
  have zz := s2.only.size
  have B2 := s3.only
  go_wp2
  refine bodyPost_ret (results_tmp3 rfl _ _ _) rfl ?_
  exact ⟨A2, c2, T, u, v, rfl, b1.trans (B2.below (Nat.le_refl _) b1.size), m3.mono (by have := b1.size; omega) (by omega), hS, by omega, hv⟩
end Go.Proofs.Ytmjokeibflbeoaa
