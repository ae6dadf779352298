
/- The drawn sets. -/
import Derived.Test.YthllbekoidogpaaDrawAll
import Derived.Test.YthllbekoidogpaaMadeS
import Derived.Test.YthllbekoidogpaaPureX
import Derived.Deep.RegionHeld3
namespace Go.Proofs.Ythllbekoidogpaa
open Go.RowKit
set_option linter.unusedVariables false


theorem or2_pow {a b : Nat} (ha : a ≤ 9) (hb : b ≤ 9) : ∃ x : Nat, bits .or .i64 ((2 : Int) ^ a) ((2 : Int) ^ b) = (x : Int) ∧ x < 1024 := by
  have h := pow_le9 ha
  have h2 := pow_le9 hb
  have e : (2 : Int) ^ a = ((2 ^ a : Nat) : Int) := by simp
  refine ⟨2 ^ a ||| 2 ^ b, by rw [e]; exact or_pow (by omega) hb, Nat.or_lt_two_pow (n := 10) (by omega) (by omega)⟩
theorem or1_pow {x b : Nat} (hx : x < 1024) (hb : b ≤ 9) : ∃ y : Nat, bits .or .i64 (x : Int) ((2 : Int) ^ b) = (y : Int) ∧ y < 1024 := by
  have h2 := pow_le9 hb
  exact ⟨x ||| 2 ^ b, or_pow hx hb, Nat.or_lt_two_pow (n := 10) (by omega) (by omega)⟩

theorem QD.below0 {w w' : World} (q : QD w w') : w.heap.size ≤ w'.heap.size := (q.below 0).size

/-- A drawn table and a drawn set. -/
def SetD (w : World) (g : Nat) (e : Ending) (w' : World) : Prop :=
  ∃ A' c' T, ∃ z : Int, e = .returned (.tuple #[.slice A' T.length c', .int .i64 z]) ∧ Mat w' w.heap.size w'.heap.size A' T ∧ Small T ∧ Only g (g + 1) w w' ∧ -10000 ≤ z ∧ z ≤ 10000

/-- A drawn table and a drawn set: new, small. -/
def DrawnS (w : World) (e : Ending) (w' : World) : Prop := ∃ A c T, ∃ z : Int, e = .returned (.tuple #[.slice A T.length c, .int .i64 z]) ∧ Below w.heap.size w w' ∧ Mat w' w.heap.size w'.heap.size A T ∧ Small T
end Go.Proofs.Ythllbekoidogpaa
