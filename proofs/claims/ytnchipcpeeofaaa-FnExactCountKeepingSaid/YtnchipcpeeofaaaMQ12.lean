/-  -/
import Derived.Laws.Slices
import Derived.Lib.OthersKept
import Derived.Laws.RangeAny
import Derived.Deep.RegionHeld3
import Derived.BigQuiet
import Derived.Lib.Walk
import Derived.Lib.BufferWrite
import Derived.Lib.UnsafeStr
import Derived.Lib.Strings
import Derived.Laws.MakeOwn
import Derived.Laws.Cover4
import Derived.Laws.IdiomStrings
import Derived.Shelf.RegionOpenPlain
import Derived.Test.YtnchipcpeeofaaaMQ06
import Derived.Test.YtnchipcpeeofaaaMQ02
namespace Go.Proofs.Ytnchipcpeeofaaa
open Go.RowKit Go.Lib Go.Shelf
set_option linter.unusedVariables false
set_option linter.unusedSimpArgs false

/-- A rune as memory holds it. -/
abbrev rn (z : Int) : Value := .int .i32 z
/-- Where the letter at k comes from when i letters from each end have changed places, of n letters. -/
def turnAt (n i k : Nat) : Nat := if k < n ∧ (k < i ∨ n ≤ k + i) then n - 1 - k else k
/-- A row of runes whose first n have changed places i times. -/
def Turning (W : World) (g : Nat) (t : TypeId) (m n i : Nat) (f : Nat → Int) : Prop := W.rowIs g t m fun k => rn (f (turnAt n i k))
theorem Turning.cell {W : World} {g m n i k : Nat} {t : TypeId} {f : Nat → Int} (h : Turning W g t m n i f) (hk : k < m) : W.cell? ⟨g, k, none⟩ = some (rn (f (turnAt n i k))) := World.rowIs.cell h hk
end Go.Proofs.Ytnchipcpeeofaaa
