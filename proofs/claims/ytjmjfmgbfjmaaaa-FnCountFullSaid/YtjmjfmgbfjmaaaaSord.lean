
/- Orders: the specification's. -/
import Derived.Test.YtjmjfmgbfjmaaaaSband
import Derived.Test.YtjmjfmgbfjmaaaaOrdP
import Derived.Test.YtjmjfmgbfjmaaaaHighS
import Derived.Test.YtjmjfmgbfjmaaaaMadeS
import Derived.Deep.RegionHeld3
namespace Go.Proofs.Ytjmjfmgbfjmaaaa
open Go.RowKit
set_option linter.unusedVariables false


/-- What is under a thing, under way. -/
def undK (T : List (List Int)) (a k : Nat) : Nat := msk (fun b => blw T b a) k
theorem undK_no {T : List (List Int)} {a k : Nat} (h : blw T k a = false) : undK T a (k + 1) = undK T a k := by
  unfold undK
  simp [msk, h]
theorem undK_yes {T : List (List Int)} {a k : Nat} (h : blw T k a = true) : undK T a (k + 1) = undK T a k ||| 2 ^ k := by
  unfold undK
  rw [msk_or, if_pos h]
theorem undK_lt (T : List (List Int)) (a k : Nat) : undK T a k < 2 ^ k := msk_lt _ _

/-- Heights in a row of the call's own. -/
def RowH (w : World) (g n : Nat) (H : Nat → Nat) : Prop := w.rowIs g 3 n (fun i => .int .i64 (H i : Nat))
theorem RowH.put {w : World} {g n a v : Nat} {H : Nat → Nat} (h : RowH w g n H) : RowH (w.setCell ⟨g, a, none⟩ (.int .i64 (v : Nat))) g n (putN H a v) := (World.rowIs.set h a _).congr fun i _ => by
  unfold putN
  by_cases e : i = a
  · rw [if_pos e, if_pos e]
  · rw [if_neg e, if_neg e]
theorem RowH.cell {w : World} {g n a : Nat} {H : Nat → Nat} (h : RowH w g n H) (ha : a < n) : w.cell? ⟨g, a, none⟩ = some (.int .i64 (H a : Nat)) := World.rowIs.cell h ha
theorem RowH.frz {w : World} {g n : Nat} {H : Nat → Nat} (h : RowH w g n H) (a : Nat) : w.frozen? ⟨g, a, none⟩ = false := World.rowIs.frozen h a
theorem sbl_at (T : List (List Int)) (b a : Nat) : sbl T b a = ((b != a) && (mul T (b : Int) (a : Int) == (b : Int) && mul T (a : Int) (b : Int) == (b : Int))) := rfl

end Go.Proofs.Ytjmjfmgbfjmaaaa
