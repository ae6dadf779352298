
/- Values of words: the specification's. -/
import Derived.Test.YtnennilpedediaaSword
import Derived.Test.YtnennilpedediaaWordV
import Derived.Test.YtnennilpedediaaOrdP
import Derived.Test.YtnennilpedediaaProd
import Derived.Test.YtnennilpedediaaFill
namespace Go.Proofs.Ytnennilpedediaa
open Go.RowKit
set_option linter.unusedVariables false


/-- What letters stand for. -/
def ltf (a b c : Int) (y : UInt8) : Int := if y = 97 then a else if y = 98 then b else c
noncomputable def valW (T : List (List Int)) (u : List UInt8) (a b c : Int) : Int := if (okW u && (inT T a && (inT T b && inT T c))) = true then prodT T (u.map (ltf a b c)) else -1
theorem valW_not {T : List (List Int)} {u : List UInt8} {a b c : Int} (h : (okW u && (inT T a && (inT T b && inT T c))) = false) : valW T u a b c = -1 := by unfold valW; rw [h]; rfl
theorem valW_ok {T : List (List Int)} {u : List UInt8} {a b c : Int} (h1 : okW u = true) (h2 : inT T a = true) (h3 : inT T b = true) (h4 : inT T c = true) : valW T u a b c = prodT T (u.map (ltf a b c)) := by unfold valW; rw [h1, h2, h3, h4]; rfl
/-- The row of things under way. -/
def vrow (f : UInt8 → Int) (u : List UInt8) (k : Nat) : List Int := (u.take k).map f
theorem len_vrow {f : UInt8 → Int} {u : List UInt8} {k : Nat} (h : k ≤ u.length) : (vrow f u k).length = k := by unfold vrow; rw [List.length_map, List.length_take]; omega
theorem vrow_succ {f : UInt8 → Int} {u : List UInt8} {k : Nat} (hk : k < u.length) : vrow f u k ++ [f (lt u k)] = vrow f u (k + 1) := by unfold vrow; rw [take_lt hk, List.map_append]; rfl
theorem vrow_all (f : UInt8 → Int) (u : List UInt8) : vrow f u u.length = u.map f := by unfold vrow; rw [List.take_length]
theorem map_take {u : List UInt8} {k : Nat} (hk : k < u.length) (f : UInt8 → Int) : (u.take k).map f ++ [f (lt u k)] = (u.take (k + 1)).map f := by rw [take_lt hk, List.map_append]; rfl

end Go.Proofs.Ytnennilpedediaa
