/-
  No cell of these rows narrows 'for every input' (looked for: loops, veiled, ifaces, maps, wideKeys, modest, calm, conditions, laid).
  DERIVED. THE GIVEN ROWS OF THIS SEAT. 12 by the template 'for every input the law returns true; each argument reads behind the call as it read before'; 0 by the template 'total and deterministic' (their statements: YtcegjiiondmchabTotals.lean).
  GIVEN WITH THE SEED: the statements are not yours to turn. If you find one false, say at which input.
  Laid BY PROGRAM, IN A SANDBOX (cutbox-rows.mjs): the forced cells as the released guide's own fill.sh prints them over the translation d87052917c61d153… (all of the seat's roots in one cut). By AI agents, Wed Nov 11 2026. No macro, syntax, notation, axiom, sorry.
-/
import Derived.Test.YtcegjiiondmchabChecked
import GoSem.Claim
import GoSem.ClaimJoined
import GoSem.ClaimMapViews
import Derived.JoinedTies
import Derived.KernelRfl
namespace Go.Proofs.Ytcegjiiondmchab
/- THE CELL 'sum', in the pinned program and in every row, IS THE sha256 OF THE DUMP (.gsa) THAT YtcegjiiondmchabProg.lean LOADS. Nothing in Lean hashes anything: it is a label: what it is worth is what the hold of that sum in a sandbox is worth. -/
noncomputable def Try.pinned : Pinned := { name := "ytcegjiiondmchab", sum := "d87052917c61d1531e2483ae5c94fef9b65ab61fc9c7059052222c7ade040ecd", checked := Try.checked }
namespace Rows
def none {H : Type} : Left H := { results := [], args := [] }

/-- 'laws.FnBandOk': WHATEVER THE INPUT: true; the input reads as it did. -/
def fnBandOkSpec : ChangeSpec := { name := "fnBandOk", fn := fun _ => fun
  | [d1, d2] => { results := [.lit (.bool true)], args := [d1, d2] }
  | _ => none }
def fnBandOkRow : OpenClaim := { program := "ytcegjiiondmchab", sum := "d87052917c61d1531e2483ae5c94fef9b65ab61fc9c7059052222c7ade040ecd", func := "loop.example/ownsquares/laws.FnBandOk", spec := "fnBandOk", unfollowed := true, recurses := true, apart := false }
def FnBandOkSaid : Prop := fnBandOkRow.holds Try.pinned (OpenSpec.ofChange fnBandOkSpec)

/-- ITS FALSE NEIGHBOUR: 'it returns false'. Refute it at one input. -/
def fnBandOkWrong : ChangeSpec := { name := "fnBandOk", fn := fun _ => fun
  | [d1, d2] => { results := [.lit (.bool false)], args := [d1, d2] }
  | _ => none }
def FnBandOkWrongFalsely : Prop := fnBandOkRow.holds Try.pinned (OpenSpec.ofChange fnBandOkWrong)

/-- 'laws.FnFirstOk': WHATEVER THE INPUT: true; the input reads as it did. -/
def fnFirstOkSpec : ChangeSpec := { name := "fnFirstOk", fn := fun _ => fun
  | [d] => { results := [.lit (.bool true)], args := [d] }
  | _ => none }
def fnFirstOkRow : OpenClaim := { program := "ytcegjiiondmchab", sum := "d87052917c61d1531e2483ae5c94fef9b65ab61fc9c7059052222c7ade040ecd", func := "loop.example/ownsquares/laws.FnFirstOk", spec := "fnFirstOk", unfollowed := true, recurses := true, apart := false }
def FnFirstOkSaid : Prop := fnFirstOkRow.holds Try.pinned (OpenSpec.ofChange fnFirstOkSpec)

/-- ITS FALSE NEIGHBOUR: 'it returns false'. Refute it at one input. -/
def fnFirstOkWrong : ChangeSpec := { name := "fnFirstOk", fn := fun _ => fun
  | [d] => { results := [.lit (.bool false)], args := [d] }
  | _ => none }
def FnFirstOkWrongFalsely : Prop := fnFirstOkRow.holds Try.pinned (OpenSpec.ofChange fnFirstOkWrong)

/-- 'laws.FnLeftOk': WHATEVER THE INPUT: true; the input reads as it did. -/
def fnLeftOkSpec : ChangeSpec := { name := "fnLeftOk", fn := fun _ => fun
  | [d] => { results := [.lit (.bool true)], args := [d] }
  | _ => none }
def fnLeftOkRow : OpenClaim := { program := "ytcegjiiondmchab", sum := "d87052917c61d1531e2483ae5c94fef9b65ab61fc9c7059052222c7ade040ecd", func := "loop.example/ownsquares/laws.FnLeftOk", spec := "fnLeftOk", unfollowed := true, recurses := true, apart := false }
def FnLeftOkSaid : Prop := fnLeftOkRow.holds Try.pinned (OpenSpec.ofChange fnLeftOkSpec)

/-- ITS FALSE NEIGHBOUR: 'it returns false'. Refute it at one input. -/
def fnLeftOkWrong : ChangeSpec := { name := "fnLeftOk", fn := fun _ => fun
  | [d] => { results := [.lit (.bool false)], args := [d] }
  | _ => none }
def FnLeftOkWrongFalsely : Prop := fnLeftOkRow.holds Try.pinned (OpenSpec.ofChange fnLeftOkWrong)

/-- 'laws.FnRightOk': WHATEVER THE INPUT: true; the input reads as it did. -/
def fnRightOkSpec : ChangeSpec := { name := "fnRightOk", fn := fun _ => fun
  | [d] => { results := [.lit (.bool true)], args := [d] }
  | _ => none }
def fnRightOkRow : OpenClaim := { program := "ytcegjiiondmchab", sum := "d87052917c61d1531e2483ae5c94fef9b65ab61fc9c7059052222c7ade040ecd", func := "loop.example/ownsquares/laws.FnRightOk", spec := "fnRightOk", unfollowed := true, recurses := true, apart := false }
def FnRightOkSaid : Prop := fnRightOkRow.holds Try.pinned (OpenSpec.ofChange fnRightOkSpec)

/-- ITS FALSE NEIGHBOUR: 'it returns false'. Refute it at one input. -/
def fnRightOkWrong : ChangeSpec := { name := "fnRightOk", fn := fun _ => fun
  | [d] => { results := [.lit (.bool false)], args := [d] }
  | _ => none }
def FnRightOkWrongFalsely : Prop := fnRightOkRow.holds Try.pinned (OpenSpec.ofChange fnRightOkWrong)

/-- 'laws.FnZeroOf': WHATEVER THE INPUT: true; the input reads as it did. -/
def fnZeroOfSpec : ChangeSpec := { name := "fnZeroOf", fn := fun _ => fun
  | [d] => { results := [.lit (.bool true)], args := [d] }
  | _ => none }
def fnZeroOfRow : OpenClaim := { program := "ytcegjiiondmchab", sum := "d87052917c61d1531e2483ae5c94fef9b65ab61fc9c7059052222c7ade040ecd", func := "loop.example/ownsquares/laws.FnZeroOf", spec := "fnZeroOf", unfollowed := true, recurses := true, apart := false }
def FnZeroOfSaid : Prop := fnZeroOfRow.holds Try.pinned (OpenSpec.ofChange fnZeroOfSpec)

/-- ITS FALSE NEIGHBOUR: 'it returns false'. Refute it at one input. -/
def fnZeroOfWrong : ChangeSpec := { name := "fnZeroOf", fn := fun _ => fun
  | [d] => { results := [.lit (.bool false)], args := [d] }
  | _ => none }
def FnZeroOfWrongFalsely : Prop := fnZeroOfRow.holds Try.pinned (OpenSpec.ofChange fnZeroOfWrong)

/-- 'laws.FnOneOf': WHATEVER THE INPUT: true; the input reads as it did. -/
def fnOneOfSpec : ChangeSpec := { name := "fnOneOf", fn := fun _ => fun
  | [d] => { results := [.lit (.bool true)], args := [d] }
  | _ => none }
def fnOneOfRow : OpenClaim := { program := "ytcegjiiondmchab", sum := "d87052917c61d1531e2483ae5c94fef9b65ab61fc9c7059052222c7ade040ecd", func := "loop.example/ownsquares/laws.FnOneOf", spec := "fnOneOf", unfollowed := true, recurses := true, apart := false }
def FnOneOfSaid : Prop := fnOneOfRow.holds Try.pinned (OpenSpec.ofChange fnOneOfSpec)

/-- ITS FALSE NEIGHBOUR: 'it returns false'. Refute it at one input. -/
def fnOneOfWrong : ChangeSpec := { name := "fnOneOf", fn := fun _ => fun
  | [d] => { results := [.lit (.bool false)], args := [d] }
  | _ => none }
def FnOneOfWrongFalsely : Prop := fnOneOfRow.holds Try.pinned (OpenSpec.ofChange fnOneOfWrong)

/-- 'laws.FnExactBandOk': WHATEVER THE INPUT: true; the input reads as it did. -/
def fnExactBandOkSpec : ChangeSpec := { name := "fnExactBandOk", fn := fun _ => fun
  | [d] => { results := [.lit (.bool true)], args := [d] }
  | _ => none }
def fnExactBandOkRow : OpenClaim := { program := "ytcegjiiondmchab", sum := "d87052917c61d1531e2483ae5c94fef9b65ab61fc9c7059052222c7ade040ecd", func := "loop.example/ownsquares/laws.FnExactBandOk", spec := "fnExactBandOk", unfollowed := true, recurses := true, apart := false }
def FnExactBandOkSaid : Prop := fnExactBandOkRow.holds Try.pinned (OpenSpec.ofChange fnExactBandOkSpec)

/-- ITS FALSE NEIGHBOUR: 'it returns false'. Refute it at one input. -/
def fnExactBandOkWrong : ChangeSpec := { name := "fnExactBandOk", fn := fun _ => fun
  | [d] => { results := [.lit (.bool false)], args := [d] }
  | _ => none }
def FnExactBandOkWrongFalsely : Prop := fnExactBandOkRow.holds Try.pinned (OpenSpec.ofChange fnExactBandOkWrong)

/-- 'laws.FnExactFirstOk': WHATEVER THE INPUT: true; the input reads as it did. -/
def fnExactFirstOkSpec : ChangeSpec := { name := "fnExactFirstOk", fn := fun _ => fun
  | [d] => { results := [.lit (.bool true)], args := [d] }
  | _ => none }
def fnExactFirstOkRow : OpenClaim := { program := "ytcegjiiondmchab", sum := "d87052917c61d1531e2483ae5c94fef9b65ab61fc9c7059052222c7ade040ecd", func := "loop.example/ownsquares/laws.FnExactFirstOk", spec := "fnExactFirstOk", unfollowed := true, recurses := true, apart := false }
def FnExactFirstOkSaid : Prop := fnExactFirstOkRow.holds Try.pinned (OpenSpec.ofChange fnExactFirstOkSpec)

/-- ITS FALSE NEIGHBOUR: 'it returns false'. Refute it at one input. -/
def fnExactFirstOkWrong : ChangeSpec := { name := "fnExactFirstOk", fn := fun _ => fun
  | [d] => { results := [.lit (.bool false)], args := [d] }
  | _ => none }
def FnExactFirstOkWrongFalsely : Prop := fnExactFirstOkRow.holds Try.pinned (OpenSpec.ofChange fnExactFirstOkWrong)

/-- 'laws.FnExactLeftOk': WHATEVER THE INPUT: true; the input reads as it did. -/
def fnExactLeftOkSpec : ChangeSpec := { name := "fnExactLeftOk", fn := fun _ => fun
  | [d] => { results := [.lit (.bool true)], args := [d] }
  | _ => none }
def fnExactLeftOkRow : OpenClaim := { program := "ytcegjiiondmchab", sum := "d87052917c61d1531e2483ae5c94fef9b65ab61fc9c7059052222c7ade040ecd", func := "loop.example/ownsquares/laws.FnExactLeftOk", spec := "fnExactLeftOk", unfollowed := true, recurses := true, apart := false }
def FnExactLeftOkSaid : Prop := fnExactLeftOkRow.holds Try.pinned (OpenSpec.ofChange fnExactLeftOkSpec)

/-- ITS FALSE NEIGHBOUR: 'it returns false'. Refute it at one input. -/
def fnExactLeftOkWrong : ChangeSpec := { name := "fnExactLeftOk", fn := fun _ => fun
  | [d] => { results := [.lit (.bool false)], args := [d] }
  | _ => none }
def FnExactLeftOkWrongFalsely : Prop := fnExactLeftOkRow.holds Try.pinned (OpenSpec.ofChange fnExactLeftOkWrong)

/-- 'laws.FnExactRightOk': WHATEVER THE INPUT: true; the input reads as it did. -/
def fnExactRightOkSpec : ChangeSpec := { name := "fnExactRightOk", fn := fun _ => fun
  | [d] => { results := [.lit (.bool true)], args := [d] }
  | _ => none }
def fnExactRightOkRow : OpenClaim := { program := "ytcegjiiondmchab", sum := "d87052917c61d1531e2483ae5c94fef9b65ab61fc9c7059052222c7ade040ecd", func := "loop.example/ownsquares/laws.FnExactRightOk", spec := "fnExactRightOk", unfollowed := true, recurses := true, apart := false }
def FnExactRightOkSaid : Prop := fnExactRightOkRow.holds Try.pinned (OpenSpec.ofChange fnExactRightOkSpec)

/-- ITS FALSE NEIGHBOUR: 'it returns false'. Refute it at one input. -/
def fnExactRightOkWrong : ChangeSpec := { name := "fnExactRightOk", fn := fun _ => fun
  | [d] => { results := [.lit (.bool false)], args := [d] }
  | _ => none }
def FnExactRightOkWrongFalsely : Prop := fnExactRightOkRow.holds Try.pinned (OpenSpec.ofChange fnExactRightOkWrong)

/-- 'laws.FnExactZeroOf': WHATEVER THE INPUT: true; the input reads as it did. -/
def fnExactZeroOfSpec : ChangeSpec := { name := "fnExactZeroOf", fn := fun _ => fun
  | [d] => { results := [.lit (.bool true)], args := [d] }
  | _ => none }
def fnExactZeroOfRow : OpenClaim := { program := "ytcegjiiondmchab", sum := "d87052917c61d1531e2483ae5c94fef9b65ab61fc9c7059052222c7ade040ecd", func := "loop.example/ownsquares/laws.FnExactZeroOf", spec := "fnExactZeroOf", unfollowed := true, recurses := true, apart := false }
def FnExactZeroOfSaid : Prop := fnExactZeroOfRow.holds Try.pinned (OpenSpec.ofChange fnExactZeroOfSpec)

/-- ITS FALSE NEIGHBOUR: 'it returns false'. Refute it at one input. -/
def fnExactZeroOfWrong : ChangeSpec := { name := "fnExactZeroOf", fn := fun _ => fun
  | [d] => { results := [.lit (.bool false)], args := [d] }
  | _ => none }
def FnExactZeroOfWrongFalsely : Prop := fnExactZeroOfRow.holds Try.pinned (OpenSpec.ofChange fnExactZeroOfWrong)

/-- 'laws.FnExactOneOf': WHATEVER THE INPUT: true; the input reads as it did. -/
def fnExactOneOfSpec : ChangeSpec := { name := "fnExactOneOf", fn := fun _ => fun
  | [d] => { results := [.lit (.bool true)], args := [d] }
  | _ => none }
def fnExactOneOfRow : OpenClaim := { program := "ytcegjiiondmchab", sum := "d87052917c61d1531e2483ae5c94fef9b65ab61fc9c7059052222c7ade040ecd", func := "loop.example/ownsquares/laws.FnExactOneOf", spec := "fnExactOneOf", unfollowed := true, recurses := true, apart := false }
def FnExactOneOfSaid : Prop := fnExactOneOfRow.holds Try.pinned (OpenSpec.ofChange fnExactOneOfSpec)

/-- ITS FALSE NEIGHBOUR: 'it returns false'. Refute it at one input. -/
def fnExactOneOfWrong : ChangeSpec := { name := "fnExactOneOf", fn := fun _ => fun
  | [d] => { results := [.lit (.bool false)], args := [d] }
  | _ => none }
def FnExactOneOfWrongFalsely : Prop := fnExactOneOfRow.holds Try.pinned (OpenSpec.ofChange fnExactOneOfWrong)

/- THE SECOND FORM. 'bulk': how many values and letters a reading holds, each counted each time it is reached (what is shared counts as often as it is met; a slice's spare places count too). A statement '..UptoSaid' is the law's where the arguments, and the package variables that the reading takes, are together of bulk at most 1048576: NARROWER than '..Said'. Prove '..Said' where nothing that the law and all that it calls make is longer than what came in: it says more and counts as full. Else prove '..UptoSaid'. A law counts once. -/
mutual
def uptoBulk {H : Type} : DataW H → Nat
  | .lit (.string bytes) => bytes.length + 1
  | .lit _ => 1
  | .nil => 1
  | .ptr d => uptoBulk d + 1
  | .slice elems spare => uptoBulkAll elems + uptoBulkAll spare + 1
  | .agg parts => uptoBulkAll parts + 1
  | .iface _ d => uptoBulk d + 1
  | .map entries => uptoBulkEntries entries + 1
  | .held _ => 1
def uptoBulkAll {H : Type} : List (DataW H) → Nat
  | [] => 0
  | d :: r => uptoBulk d + uptoBulkAll r
def uptoBulkEntries {H : Type} : List (Lit × DataW H) → Nat
  | [] => 0
  | x :: r => uptoBulkEntry x + uptoBulkEntries r
def uptoBulkEntry {H : Type} : Lit × DataW H → Nat
  | (.string bytes, d) => bytes.length + uptoBulk d + 1
  | (_, d) => uptoBulk d + 1
 end
def uptoSmall : (H : Type) → List (DataW H) → Bool := fun _ ds => decide (uptoBulkAll ds ≤ 1048576)
def OpenSpec.upto (s : _root_.Go.ChangeSpec) : _root_.Go.OpenSpec := { _root_.Go.OpenSpec.ofChange s with cond := some uptoSmall }

/-- 'laws.FnBandOk', WHERE WHAT IT READS IS OF BULK AT MOST 1048576: true; the input reads as it did. -/
def fnBandOkUptoRow : OpenClaim := { program := "ytcegjiiondmchab", sum := "d87052917c61d1531e2483ae5c94fef9b65ab61fc9c7059052222c7ade040ecd", func := "loop.example/ownsquares/laws.FnBandOk", spec := "fnBandOk", unfollowed := true, recurses := true, apart := false, narrowed := true }
def FnBandOkUptoSaid : Prop := fnBandOkUptoRow.holds Try.pinned (OpenSpec.upto fnBandOkSpec)

/-- 'laws.FnFirstOk', WHERE WHAT IT READS IS OF BULK AT MOST 1048576: true; the input reads as it did. -/
def fnFirstOkUptoRow : OpenClaim := { program := "ytcegjiiondmchab", sum := "d87052917c61d1531e2483ae5c94fef9b65ab61fc9c7059052222c7ade040ecd", func := "loop.example/ownsquares/laws.FnFirstOk", spec := "fnFirstOk", unfollowed := true, recurses := true, apart := false, narrowed := true }
def FnFirstOkUptoSaid : Prop := fnFirstOkUptoRow.holds Try.pinned (OpenSpec.upto fnFirstOkSpec)

/-- 'laws.FnLeftOk', WHERE WHAT IT READS IS OF BULK AT MOST 1048576: true; the input reads as it did. -/
def fnLeftOkUptoRow : OpenClaim := { program := "ytcegjiiondmchab", sum := "d87052917c61d1531e2483ae5c94fef9b65ab61fc9c7059052222c7ade040ecd", func := "loop.example/ownsquares/laws.FnLeftOk", spec := "fnLeftOk", unfollowed := true, recurses := true, apart := false, narrowed := true }
def FnLeftOkUptoSaid : Prop := fnLeftOkUptoRow.holds Try.pinned (OpenSpec.upto fnLeftOkSpec)

/-- 'laws.FnRightOk', WHERE WHAT IT READS IS OF BULK AT MOST 1048576: true; the input reads as it did. -/
def fnRightOkUptoRow : OpenClaim := { program := "ytcegjiiondmchab", sum := "d87052917c61d1531e2483ae5c94fef9b65ab61fc9c7059052222c7ade040ecd", func := "loop.example/ownsquares/laws.FnRightOk", spec := "fnRightOk", unfollowed := true, recurses := true, apart := false, narrowed := true }
def FnRightOkUptoSaid : Prop := fnRightOkUptoRow.holds Try.pinned (OpenSpec.upto fnRightOkSpec)

/-- 'laws.FnZeroOf', WHERE WHAT IT READS IS OF BULK AT MOST 1048576: true; the input reads as it did. -/
def fnZeroOfUptoRow : OpenClaim := { program := "ytcegjiiondmchab", sum := "d87052917c61d1531e2483ae5c94fef9b65ab61fc9c7059052222c7ade040ecd", func := "loop.example/ownsquares/laws.FnZeroOf", spec := "fnZeroOf", unfollowed := true, recurses := true, apart := false, narrowed := true }
def FnZeroOfUptoSaid : Prop := fnZeroOfUptoRow.holds Try.pinned (OpenSpec.upto fnZeroOfSpec)

/-- 'laws.FnOneOf', WHERE WHAT IT READS IS OF BULK AT MOST 1048576: true; the input reads as it did. -/
def fnOneOfUptoRow : OpenClaim := { program := "ytcegjiiondmchab", sum := "d87052917c61d1531e2483ae5c94fef9b65ab61fc9c7059052222c7ade040ecd", func := "loop.example/ownsquares/laws.FnOneOf", spec := "fnOneOf", unfollowed := true, recurses := true, apart := false, narrowed := true }
def FnOneOfUptoSaid : Prop := fnOneOfUptoRow.holds Try.pinned (OpenSpec.upto fnOneOfSpec)

/-- 'laws.FnExactBandOk', WHERE WHAT IT READS IS OF BULK AT MOST 1048576: true; the input reads as it did. -/
def fnExactBandOkUptoRow : OpenClaim := { program := "ytcegjiiondmchab", sum := "d87052917c61d1531e2483ae5c94fef9b65ab61fc9c7059052222c7ade040ecd", func := "loop.example/ownsquares/laws.FnExactBandOk", spec := "fnExactBandOk", unfollowed := true, recurses := true, apart := false, narrowed := true }
def FnExactBandOkUptoSaid : Prop := fnExactBandOkUptoRow.holds Try.pinned (OpenSpec.upto fnExactBandOkSpec)

/-- 'laws.FnExactFirstOk', WHERE WHAT IT READS IS OF BULK AT MOST 1048576: true; the input reads as it did. -/
def fnExactFirstOkUptoRow : OpenClaim := { program := "ytcegjiiondmchab", sum := "d87052917c61d1531e2483ae5c94fef9b65ab61fc9c7059052222c7ade040ecd", func := "loop.example/ownsquares/laws.FnExactFirstOk", spec := "fnExactFirstOk", unfollowed := true, recurses := true, apart := false, narrowed := true }
def FnExactFirstOkUptoSaid : Prop := fnExactFirstOkUptoRow.holds Try.pinned (OpenSpec.upto fnExactFirstOkSpec)

/-- 'laws.FnExactLeftOk', WHERE WHAT IT READS IS OF BULK AT MOST 1048576: true; the input reads as it did. -/
def fnExactLeftOkUptoRow : OpenClaim := { program := "ytcegjiiondmchab", sum := "d87052917c61d1531e2483ae5c94fef9b65ab61fc9c7059052222c7ade040ecd", func := "loop.example/ownsquares/laws.FnExactLeftOk", spec := "fnExactLeftOk", unfollowed := true, recurses := true, apart := false, narrowed := true }
def FnExactLeftOkUptoSaid : Prop := fnExactLeftOkUptoRow.holds Try.pinned (OpenSpec.upto fnExactLeftOkSpec)

/-- 'laws.FnExactRightOk', WHERE WHAT IT READS IS OF BULK AT MOST 1048576: true; the input reads as it did. -/
def fnExactRightOkUptoRow : OpenClaim := { program := "ytcegjiiondmchab", sum := "d87052917c61d1531e2483ae5c94fef9b65ab61fc9c7059052222c7ade040ecd", func := "loop.example/ownsquares/laws.FnExactRightOk", spec := "fnExactRightOk", unfollowed := true, recurses := true, apart := false, narrowed := true }
def FnExactRightOkUptoSaid : Prop := fnExactRightOkUptoRow.holds Try.pinned (OpenSpec.upto fnExactRightOkSpec)

/-- 'laws.FnExactZeroOf', WHERE WHAT IT READS IS OF BULK AT MOST 1048576: true; the input reads as it did. -/
def fnExactZeroOfUptoRow : OpenClaim := { program := "ytcegjiiondmchab", sum := "d87052917c61d1531e2483ae5c94fef9b65ab61fc9c7059052222c7ade040ecd", func := "loop.example/ownsquares/laws.FnExactZeroOf", spec := "fnExactZeroOf", unfollowed := true, recurses := true, apart := false, narrowed := true }
def FnExactZeroOfUptoSaid : Prop := fnExactZeroOfUptoRow.holds Try.pinned (OpenSpec.upto fnExactZeroOfSpec)

/-- 'laws.FnExactOneOf', WHERE WHAT IT READS IS OF BULK AT MOST 1048576: true; the input reads as it did. -/
def fnExactOneOfUptoRow : OpenClaim := { program := "ytcegjiiondmchab", sum := "d87052917c61d1531e2483ae5c94fef9b65ab61fc9c7059052222c7ade040ecd", func := "loop.example/ownsquares/laws.FnExactOneOf", spec := "fnExactOneOf", unfollowed := true, recurses := true, apart := false, narrowed := true }
def FnExactOneOfUptoSaid : Prop := fnExactOneOfUptoRow.holds Try.pinned (OpenSpec.upto fnExactOneOfSpec)

end Rows
end Go.Proofs.Ytcegjiiondmchab
