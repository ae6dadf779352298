
/- Tables of pairs: the program's. -/
import Derived.Test.YtkemkbjjedaadaaGrp
import Derived.Test.YtkemkbjjedaadaaSgrp
import Derived.Test.YtkemkbjjedaadaaFill
import Derived.Test.YtkemkbjjedaadaaTurn
import Derived.Deep.RegionHeld3
namespace Go.Proofs.Ytkemkbjjedaadaa
open Go.RowKit
set_option linter.unusedVariables false


theorem wrapQ (x y : Int) (hx : 0 ≤ x) (hx2 : x ≤ 1000000) (hy : 1 ≤ y) : IntKind.i64.wrap (x / y) = x / y ∧ IntKind.i64.wrap (x.tdiv y) = x / y ∧ x.tdiv y = x / y ∧ x.tmod y = x % y := by
  have hd : x.tdiv y = x / y := Int.tdiv_eq_ediv_of_nonneg hx
  have h1 : 0 ≤ x / y := Int.ediv_nonneg hx (by omega)
  have h2 : x / y ≤ x := Int.ediv_le_self _ hx
  have e : IntKind.i64.wrap (x / y) = x / y := IntWalk.i64_in _ ⟨by omega, by omega⟩
  exact ⟨e, by rw [hd]; exact e, hd, Int.tmod_eq_emod_of_nonneg hx⟩
theorem divIn {p n m : Nat} (h1 : 1 ≤ m) (hp : p < n * m) : 0 ≤ (p : Int) / (m : Int) ∧ (p : Int) / (m : Int) < n := by
  rw [div_int]; exact ⟨Int.natCast_nonneg _, Int.ofNat_lt.2 (Nat.div_lt_of_lt_mul (by rw [Nat.mul_comm]; exact hp))⟩
theorem mulB {a b : Int} (a0 : 0 ≤ a) (a9 : a ≤ 9) (b0 : 0 ≤ b) (b9 : b ≤ 9) : 0 ≤ a * b ∧ a * b ≤ 81 :=
  ⟨Int.mul_nonneg a0 b0, Int.le_trans (Int.mul_le_mul a9 b9 b0 (by omega)) (by omega)⟩

/-- The product of two pairs, each counted as one number. -/
def pairM (T U : List (List Int)) (x y : Nat) : Int := mul T ((x : Int) / (U.length : Int)) ((y : Int) / (U.length : Int)) * (U.length : Int) + mul U ((x : Int) % (U.length : Int)) ((y : Int) % (U.length : Int))

end Go.Proofs.Ytkemkbjjedaadaa
