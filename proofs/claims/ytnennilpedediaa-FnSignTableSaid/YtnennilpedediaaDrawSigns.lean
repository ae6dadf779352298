
/- What chapter 9's laws draw: rows of signs. -/
import Derived.Test.YtnennilpedediaaDrawWords
import Derived.Test.YtnennilpedediaaDrawFrees
namespace Go.Proofs.Ytnennilpedediaa
open Go.RowKit
set_option linter.unusedVariables false
set_option linter.unusedSimpArgs false

/-- A step that gives a row of so many signs. -/
def RowStep (many : Nat) (w wi : World) (B g P : Nat) (A : Option Addr) (n c : Nat) (e : Ending) (wj : World) : Prop :=
  ∃ u P', e = .returned (.string (bs u)) ∧ u.length ≤ many ∧ St w wj B g P' A n c ∧ P' ≤ P + 45 ∧ Only g (g + 1) wi wj
/-- A step that gives a row of signs. -/
def SignStep (w wi : World) (B g P : Nat) (A : Option Addr) (n c : Nat) (e : Ending) (wj : World) : Prop :=
  ∃ u P', e = .returned (.string (bs u)) ∧ u.length ≤ 41 ∧ St w wj B g P' A n c ∧ P' ≤ P + 60 ∧ Only g (g + 1) wi wj
def DrawnG (w : World) (e : Ending) (w' : World) : Prop := ∃ u, e = .returned (.string (bs u)) ∧ u.length ≤ 41 ∧ Below w.heap.size w w'
def DrawnG2 (w : World) (e : Ending) (w' : World) : Prop := ∃ u v, e = .returned (.tuple #[.string (bs u), .string (bs v)]) ∧ u.length ≤ 41 ∧ v.length ≤ 41 ∧ Below w.heap.size w w'
set_option maxHeartbeats 1000000 in
theorem drawFirstsOf_any (A : Option Addr) (n c : Nat) (w : World) (h : Bytes w w.heap.size A n) (hc : n ≤ c) (hc2 : c ≤ 9223372036854775807) :
    Calls Try.prog 18 #[.slice A n c] w (DrawnW w) := by
  go_enter Try.func18, Try.ntmps18
  go_wp2_with fail
  refine (open_any A n c w h hc hc2).mono ?_
  rintro e w1 ⟨A1, n1, c1, rfl, b1, s1⟩
  go_wp2_with fail
  refine (word_st 12 9 s1 (by omega) (by omega) (by omega) (by omega) (by omega)).mono ?_
  rintro e w2 ⟨u, P2, rfl, hu, s2, _, _⟩
  go_wp2
  go_ret
  exact ⟨u, rfl, hu, b1.trans (s2.only.below (Nat.le_refl _) b1.size)⟩
set_option maxHeartbeats 1000000 in
theorem drawSignTable_any (A : Option Addr) (n c : Nat) (w : World) (h : Bytes w w.heap.size A n) (hc : n ≤ c) (hc2 : c ≤ 9223372036854775807) :
    Calls Try.prog 9 #[.slice A n c] w (DrawnI (-1) 3 w) := by
  go_enter Try.func9, Try.ntmps9
  go_wp2_with fail
  refine (open_any A n c w h hc hc2).mono ?_
  rintro e w1 ⟨A1, n1, c1, rfl, b1, s1⟩
  go_wp2_with fail
  refine (pick_st 5 s1 (by omega) (by omega) (by omega)).mono ?_
  rintro e w2 ⟨x, rfl, hx, s2, o2⟩
  have z2 := o2.size
  go_wp2
  go_ret
  exact ⟨((x : Int) - 1), rfl, by omega, by omega, b1.trans (o2.below (by first | exact s1.lo | omega | exact Nat.le_refl _) b1.size)⟩
set_option maxHeartbeats 1000000 in
theorem drawAllFirsts_any (A : Option Addr) (n c : Nat) (w : World) (h : Bytes w w.heap.size A n) (hc : n ≤ c) (hc2 : c ≤ 9223372036854775807) :
    Calls Try.prog 25 #[.slice A n c] w (DrawnI (-1) 4 w) := by
  go_enter Try.func25, Try.ntmps25
  go_wp2_with fail
  refine (open_any A n c w h hc hc2).mono ?_
  rintro e w1 ⟨A1, n1, c1, rfl, b1, s1⟩
  go_wp2_with fail
  refine (pick_st 6 s1 (by omega) (by omega) (by omega)).mono ?_
  rintro e w2 ⟨x, rfl, hx, s2, o2⟩
  have z2 := o2.size
  go_wp2
  go_ret
  exact ⟨((x : Int) - 1), rfl, by omega, by omega, b1.trans (o2.below (by first | exact s1.lo | omega | exact Nat.le_refl _) b1.size)⟩
end Go.Proofs.Ytnennilpedediaa
