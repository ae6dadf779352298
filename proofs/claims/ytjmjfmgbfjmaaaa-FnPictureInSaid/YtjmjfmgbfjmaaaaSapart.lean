
/- Where two words have different values: the specification's. -/
import Derived.Test.YtjmjfmgbfjmaaaaSsame
import Derived.Test.YtjmjfmgbfjmaaaaSvalue
import Derived.Test.YtjmjfmgbfjmaaaaPureX
import Derived.Deep.RegionHeld3
namespace Go.Proofs.Ytjmjfmgbfjmaaaa
open Go.RowKit
set_option linter.unusedVariables false


/-- Whether two words have different values at the k-th three things. -/
noncomputable def difA (T : List (List Int)) (u v : List UInt8) (k : Nat) : Bool :=
  valW T u ((k : Int) / (T.length : Int) / (T.length : Int)) ((k : Int) / (T.length : Int) % (T.length : Int)) ((k : Int) % (T.length : Int)) != valW T v ((k : Int) / (T.length : Int) / (T.length : Int)) ((k : Int) / (T.length : Int) % (T.length : Int)) ((k : Int) % (T.length : Int))
def canA (T : List (List Int)) (u v : List UInt8) : Bool := okT T && (okW u && okW v)
/-- The first of them. -/
noncomputable def apart (T : List (List Int)) (u v : List UInt8) : Option Nat := if canA T u v = true then (List.range (T.length * T.length * T.length)).find? (difA T u v) else none
noncomputable def apR (T : List (List Int)) (u v : List UInt8) : Value := match apart T u v with
  | none => .tuple #[.int .i64 (-1), .int .i64 (-1), .int .i64 (-1), .bool false]
  | some k => .tuple #[.int .i64 ((k : Int) / (T.length : Int) / (T.length : Int)), .int .i64 ((k : Int) / (T.length : Int) % (T.length : Int)), .int .i64 ((k : Int) % (T.length : Int)), .bool true]
section
variable {T : List (List Int)} {u v : List UInt8} {k : Nat}
theorem apR_none (h : apart T u v = none) : apR T u v = .tuple #[.int .i64 (-1), .int .i64 (-1), .int .i64 (-1), .bool false] := by unfold apR; rw [h]
theorem apR_some (h : apart T u v = some k) : apR T u v = .tuple #[.int .i64 ((k : Int) / (T.length : Int) / (T.length : Int)), .int .i64 ((k : Int) / (T.length : Int) % (T.length : Int)), .int .i64 ((k : Int) % (T.length : Int)), .bool true] := by unfold apR; rw [h]
theorem apR_tup (T : List (List Int)) (u v : List UInt8) : ∃ a b c : Int, ∃ ok : Bool, apR T u v = .tuple #[.int .i64 a, .int .i64 b, .int .i64 c, .bool ok] := by
  cases h : apart T u v with
  | none => exact ⟨_, _, _, _, apR_none h⟩
  | some k => exact ⟨_, _, _, _, apR_some h⟩
theorem apart_not (h : canA T u v = false) : apart T u v = none := by unfold apart; rw [if_neg (by rw [h]; exact Bool.false_ne_true)]
theorem apart_at (hc : canA T u v = true) (hk : k < T.length * T.length * T.length) (h : difA T u v k = true) (hH : ∀ j, j < k → difA T u v j = false) : apart T u v = some k := by
  unfold apart
  rw [if_pos hc, List.find?_range_eq_some]
  exact ⟨h, List.mem_range.2 hk, fun j hj => by rw [hH j hj]; rfl⟩
theorem apart_all (hc : canA T u v = true) (hH : ∀ j, j < T.length * T.length * T.length → difA T u v j = false) : apart T u v = none := by
  unfold apart
  rw [if_pos hc, List.find?_eq_none]
  intro j hj
  rw [hH j (List.mem_range.1 hj)]
  exact Bool.false_ne_true
theorem apart_inv (h : apart T u v = some k) : canA T u v = true ∧ k < T.length * T.length * T.length ∧ difA T u v k = true ∧ ∀ j, j < k → difA T u v j = false := by
  unfold apart at h
  split at h
  · rename_i hc
    rw [List.find?_range_eq_some] at h
    exact ⟨hc, List.mem_range.1 h.2.1, h.1, fun j hj => by have := h.2.2 j hj; simpa using this⟩
  · cases h
theorem cube_le {n : Nat} (h : n ≤ 9) : n * n ≤ 81 ∧ n * n * n ≤ 729 := by
  have h1 := Nat.mul_le_mul h h
  exact ⟨h1, Nat.mul_le_mul h1 h⟩
end
end Go.Proofs.Ytjmjfmgbfjmaaaa
