/-
  No cell of these rows narrows 'for every input' (looked for: loops, veiled, ifaces, maps, wideKeys, modest, calm, conditions, laid).
  DERIVED. THE GIVEN ROWS OF THIS SEAT. 12 by the template 'for every input the law returns true; each argument reads behind the call as it read before'; 0 by the template 'total and deterministic' (their statements: YtcegjiiondmchaaTotals.lean).
  GIVEN WITH THE SEED: the statements are not yours to turn. If you find one false, say at which input.
  Laid BY PROGRAM, IN A SANDBOX (cutbox-rows.mjs): the forced cells as the released guide's own fill.sh prints them over the translation 6d4996402527ef2c… (all of the seat's roots in one cut). By AI agents, Wed Nov 11 2026. No macro, syntax, notation, axiom, sorry.
-/
import Derived.Test.YtcegjiiondmchaaChecked
import GoSem.Claim
import GoSem.ClaimJoined
import GoSem.ClaimMapViews
import Derived.JoinedTies
import Derived.KernelRfl
namespace Go.Proofs.Ytcegjiiondmchaa
/- THE CELL 'sum', in the pinned program and in every row, IS THE sha256 OF THE DUMP (.gsa) THAT YtcegjiiondmchaaProg.lean LOADS. Nothing in Lean hashes anything: it is a label: what it is worth is what the hold of that sum in a sandbox is worth. -/
noncomputable def Try.pinned : Pinned := { name := "ytcegjiiondmchaa", sum := "6d4996402527ef2c4327696e3c850e0e82b31afbf1c59a2c820472f36c4717d9", checked := Try.checked }
namespace Rows
def none {H : Type} : Left H := { results := [], args := [] }

/-- 'laws.FnBelowOk': WHATEVER THE INPUT: true; the input reads as it did. -/
def fnBelowOkSpec : ChangeSpec := { name := "fnBelowOk", fn := fun _ => fun
  | [d] => { results := [.lit (.bool true)], args := [d] }
  | _ => none }
def fnBelowOkRow : OpenClaim := { program := "ytcegjiiondmchaa", sum := "6d4996402527ef2c4327696e3c850e0e82b31afbf1c59a2c820472f36c4717d9", func := "loop.example/ownsquares/laws.FnBelowOk", spec := "fnBelowOk", unfollowed := true, recurses := true, apart := false }
def FnBelowOkSaid : Prop := fnBelowOkRow.holds Try.pinned (OpenSpec.ofChange fnBelowOkSpec)

/-- ITS FALSE NEIGHBOUR: 'it returns false'. Refute it at one input. -/
def fnBelowOkWrong : ChangeSpec := { name := "fnBelowOk", fn := fun _ => fun
  | [d] => { results := [.lit (.bool false)], args := [d] }
  | _ => none }
def FnBelowOkWrongFalsely : Prop := fnBelowOkRow.holds Try.pinned (OpenSpec.ofChange fnBelowOkWrong)

/-- 'laws.FnWeakBelow': WHATEVER THE INPUT: true; the input reads as it did. -/
def fnWeakBelowSpec : ChangeSpec := { name := "fnWeakBelow", fn := fun _ => fun
  | [d] => { results := [.lit (.bool true)], args := [d] }
  | _ => none }
def fnWeakBelowRow : OpenClaim := { program := "ytcegjiiondmchaa", sum := "6d4996402527ef2c4327696e3c850e0e82b31afbf1c59a2c820472f36c4717d9", func := "loop.example/ownsquares/laws.FnWeakBelow", spec := "fnWeakBelow", unfollowed := true, recurses := true, apart := false }
def FnWeakBelowSaid : Prop := fnWeakBelowRow.holds Try.pinned (OpenSpec.ofChange fnWeakBelowSpec)

/-- ITS FALSE NEIGHBOUR: 'it returns false'. Refute it at one input. -/
def fnWeakBelowWrong : ChangeSpec := { name := "fnWeakBelow", fn := fun _ => fun
  | [d] => { results := [.lit (.bool false)], args := [d] }
  | _ => none }
def FnWeakBelowWrongFalsely : Prop := fnWeakBelowRow.holds Try.pinned (OpenSpec.ofChange fnWeakBelowWrong)

/-- 'laws.FnUnderSet': WHATEVER THE INPUT: true; the input reads as it did. -/
def fnUnderSetSpec : ChangeSpec := { name := "fnUnderSet", fn := fun _ => fun
  | [d] => { results := [.lit (.bool true)], args := [d] }
  | _ => none }
def fnUnderSetRow : OpenClaim := { program := "ytcegjiiondmchaa", sum := "6d4996402527ef2c4327696e3c850e0e82b31afbf1c59a2c820472f36c4717d9", func := "loop.example/ownsquares/laws.FnUnderSet", spec := "fnUnderSet", unfollowed := true, recurses := true, apart := false }
def FnUnderSetSaid : Prop := fnUnderSetRow.holds Try.pinned (OpenSpec.ofChange fnUnderSetSpec)

/-- ITS FALSE NEIGHBOUR: 'it returns false'. Refute it at one input. -/
def fnUnderSetWrong : ChangeSpec := { name := "fnUnderSet", fn := fun _ => fun
  | [d] => { results := [.lit (.bool false)], args := [d] }
  | _ => none }
def FnUnderSetWrongFalsely : Prop := fnUnderSetRow.holds Try.pinned (OpenSpec.ofChange fnUnderSetWrong)

/-- 'laws.FnHighOf': WHATEVER THE INPUT: true; the input reads as it did. -/
def fnHighOfSpec : ChangeSpec := { name := "fnHighOf", fn := fun _ => fun
  | [d] => { results := [.lit (.bool true)], args := [d] }
  | _ => none }
def fnHighOfRow : OpenClaim := { program := "ytcegjiiondmchaa", sum := "6d4996402527ef2c4327696e3c850e0e82b31afbf1c59a2c820472f36c4717d9", func := "loop.example/ownsquares/laws.FnHighOf", spec := "fnHighOf", unfollowed := true, recurses := true, apart := false }
def FnHighOfSaid : Prop := fnHighOfRow.holds Try.pinned (OpenSpec.ofChange fnHighOfSpec)

/-- ITS FALSE NEIGHBOUR: 'it returns false'. Refute it at one input. -/
def fnHighOfWrong : ChangeSpec := { name := "fnHighOf", fn := fun _ => fun
  | [d] => { results := [.lit (.bool false)], args := [d] }
  | _ => none }
def FnHighOfWrongFalsely : Prop := fnHighOfRow.holds Try.pinned (OpenSpec.ofChange fnHighOfWrong)

/-- 'laws.FnPushedInto': WHATEVER THE INPUT: true; the input reads as it did. -/
def fnPushedIntoSpec : ChangeSpec := { name := "fnPushedInto", fn := fun _ => fun
  | [d] => { results := [.lit (.bool true)], args := [d] }
  | _ => none }
def fnPushedIntoRow : OpenClaim := { program := "ytcegjiiondmchaa", sum := "6d4996402527ef2c4327696e3c850e0e82b31afbf1c59a2c820472f36c4717d9", func := "loop.example/ownsquares/laws.FnPushedInto", spec := "fnPushedInto", unfollowed := true, recurses := true, apart := false }
def FnPushedIntoSaid : Prop := fnPushedIntoRow.holds Try.pinned (OpenSpec.ofChange fnPushedIntoSpec)

/-- ITS FALSE NEIGHBOUR: 'it returns false'. Refute it at one input. -/
def fnPushedIntoWrong : ChangeSpec := { name := "fnPushedInto", fn := fun _ => fun
  | [d] => { results := [.lit (.bool false)], args := [d] }
  | _ => none }
def FnPushedIntoWrongFalsely : Prop := fnPushedIntoRow.holds Try.pinned (OpenSpec.ofChange fnPushedIntoWrong)

/-- 'laws.FnExactBelowOk': WHATEVER THE INPUT: true; the input reads as it did. -/
def fnExactBelowOkSpec : ChangeSpec := { name := "fnExactBelowOk", fn := fun _ => fun
  | [d1, d2, d3] => { results := [.lit (.bool true)], args := [d1, d2, d3] }
  | _ => none }
def fnExactBelowOkRow : OpenClaim := { program := "ytcegjiiondmchaa", sum := "6d4996402527ef2c4327696e3c850e0e82b31afbf1c59a2c820472f36c4717d9", func := "loop.example/ownsquares/laws.FnExactBelowOk", spec := "fnExactBelowOk", unfollowed := true, recurses := true, apart := false }
def FnExactBelowOkSaid : Prop := fnExactBelowOkRow.holds Try.pinned (OpenSpec.ofChange fnExactBelowOkSpec)

/-- ITS FALSE NEIGHBOUR: 'it returns false'. Refute it at one input. -/
def fnExactBelowOkWrong : ChangeSpec := { name := "fnExactBelowOk", fn := fun _ => fun
  | [d1, d2, d3] => { results := [.lit (.bool false)], args := [d1, d2, d3] }
  | _ => none }
def FnExactBelowOkWrongFalsely : Prop := fnExactBelowOkRow.holds Try.pinned (OpenSpec.ofChange fnExactBelowOkWrong)

/-- 'laws.FnExactWeakBelow': WHATEVER THE INPUT: true; the input reads as it did. -/
def fnExactWeakBelowSpec : ChangeSpec := { name := "fnExactWeakBelow", fn := fun _ => fun
  | [d1, d2, d3] => { results := [.lit (.bool true)], args := [d1, d2, d3] }
  | _ => none }
def fnExactWeakBelowRow : OpenClaim := { program := "ytcegjiiondmchaa", sum := "6d4996402527ef2c4327696e3c850e0e82b31afbf1c59a2c820472f36c4717d9", func := "loop.example/ownsquares/laws.FnExactWeakBelow", spec := "fnExactWeakBelow", unfollowed := true, recurses := true, apart := false }
def FnExactWeakBelowSaid : Prop := fnExactWeakBelowRow.holds Try.pinned (OpenSpec.ofChange fnExactWeakBelowSpec)

/-- ITS FALSE NEIGHBOUR: 'it returns false'. Refute it at one input. -/
def fnExactWeakBelowWrong : ChangeSpec := { name := "fnExactWeakBelow", fn := fun _ => fun
  | [d1, d2, d3] => { results := [.lit (.bool false)], args := [d1, d2, d3] }
  | _ => none }
def FnExactWeakBelowWrongFalsely : Prop := fnExactWeakBelowRow.holds Try.pinned (OpenSpec.ofChange fnExactWeakBelowWrong)

/-- 'laws.FnExactUnderSet': WHATEVER THE INPUT: true; the input reads as it did. -/
def fnExactUnderSetSpec : ChangeSpec := { name := "fnExactUnderSet", fn := fun _ => fun
  | [d1, d2] => { results := [.lit (.bool true)], args := [d1, d2] }
  | _ => none }
def fnExactUnderSetRow : OpenClaim := { program := "ytcegjiiondmchaa", sum := "6d4996402527ef2c4327696e3c850e0e82b31afbf1c59a2c820472f36c4717d9", func := "loop.example/ownsquares/laws.FnExactUnderSet", spec := "fnExactUnderSet", unfollowed := true, recurses := true, apart := false }
def FnExactUnderSetSaid : Prop := fnExactUnderSetRow.holds Try.pinned (OpenSpec.ofChange fnExactUnderSetSpec)

/-- ITS FALSE NEIGHBOUR: 'it returns false'. Refute it at one input. -/
def fnExactUnderSetWrong : ChangeSpec := { name := "fnExactUnderSet", fn := fun _ => fun
  | [d1, d2] => { results := [.lit (.bool false)], args := [d1, d2] }
  | _ => none }
def FnExactUnderSetWrongFalsely : Prop := fnExactUnderSetRow.holds Try.pinned (OpenSpec.ofChange fnExactUnderSetWrong)

/-- 'laws.FnExactHighOf': WHATEVER THE INPUT: true; the input reads as it did. -/
def fnExactHighOfSpec : ChangeSpec := { name := "fnExactHighOf", fn := fun _ => fun
  | [d] => { results := [.lit (.bool true)], args := [d] }
  | _ => none }
def fnExactHighOfRow : OpenClaim := { program := "ytcegjiiondmchaa", sum := "6d4996402527ef2c4327696e3c850e0e82b31afbf1c59a2c820472f36c4717d9", func := "loop.example/ownsquares/laws.FnExactHighOf", spec := "fnExactHighOf", unfollowed := true, recurses := true, apart := false }
def FnExactHighOfSaid : Prop := fnExactHighOfRow.holds Try.pinned (OpenSpec.ofChange fnExactHighOfSpec)

/-- ITS FALSE NEIGHBOUR: 'it returns false'. Refute it at one input. -/
def fnExactHighOfWrong : ChangeSpec := { name := "fnExactHighOf", fn := fun _ => fun
  | [d] => { results := [.lit (.bool false)], args := [d] }
  | _ => none }
def FnExactHighOfWrongFalsely : Prop := fnExactHighOfRow.holds Try.pinned (OpenSpec.ofChange fnExactHighOfWrong)

/-- 'laws.FnExactPushedInto': WHATEVER THE INPUT: true; the input reads as it did. -/
def fnExactPushedIntoSpec : ChangeSpec := { name := "fnExactPushedInto", fn := fun _ => fun
  | [d1, d2, d3] => { results := [.lit (.bool true)], args := [d1, d2, d3] }
  | _ => none }
def fnExactPushedIntoRow : OpenClaim := { program := "ytcegjiiondmchaa", sum := "6d4996402527ef2c4327696e3c850e0e82b31afbf1c59a2c820472f36c4717d9", func := "loop.example/ownsquares/laws.FnExactPushedInto", spec := "fnExactPushedInto", unfollowed := true, recurses := true, apart := false }
def FnExactPushedIntoSaid : Prop := fnExactPushedIntoRow.holds Try.pinned (OpenSpec.ofChange fnExactPushedIntoSpec)

/-- ITS FALSE NEIGHBOUR: 'it returns false'. Refute it at one input. -/
def fnExactPushedIntoWrong : ChangeSpec := { name := "fnExactPushedInto", fn := fun _ => fun
  | [d1, d2, d3] => { results := [.lit (.bool false)], args := [d1, d2, d3] }
  | _ => none }
def FnExactPushedIntoWrongFalsely : Prop := fnExactPushedIntoRow.holds Try.pinned (OpenSpec.ofChange fnExactPushedIntoWrong)

/-- 'laws.FnMeetingOk': WHATEVER THE INPUT: true; the input reads as it did. -/
def fnMeetingOkSpec : ChangeSpec := { name := "fnMeetingOk", fn := fun _ => fun
  | [d] => { results := [.lit (.bool true)], args := [d] }
  | _ => none }
def fnMeetingOkRow : OpenClaim := { program := "ytcegjiiondmchaa", sum := "6d4996402527ef2c4327696e3c850e0e82b31afbf1c59a2c820472f36c4717d9", func := "loop.example/ownsquares/laws.FnMeetingOk", spec := "fnMeetingOk", unfollowed := true, recurses := true, apart := false }
def FnMeetingOkSaid : Prop := fnMeetingOkRow.holds Try.pinned (OpenSpec.ofChange fnMeetingOkSpec)

/-- ITS FALSE NEIGHBOUR: 'it returns false'. Refute it at one input. -/
def fnMeetingOkWrong : ChangeSpec := { name := "fnMeetingOk", fn := fun _ => fun
  | [d] => { results := [.lit (.bool false)], args := [d] }
  | _ => none }
def FnMeetingOkWrongFalsely : Prop := fnMeetingOkRow.holds Try.pinned (OpenSpec.ofChange fnMeetingOkWrong)

/-- 'laws.FnExactMeetingOk': WHATEVER THE INPUT: true; the input reads as it did. -/
def fnExactMeetingOkSpec : ChangeSpec := { name := "fnExactMeetingOk", fn := fun _ => fun
  | [d] => { results := [.lit (.bool true)], args := [d] }
  | _ => none }
def fnExactMeetingOkRow : OpenClaim := { program := "ytcegjiiondmchaa", sum := "6d4996402527ef2c4327696e3c850e0e82b31afbf1c59a2c820472f36c4717d9", func := "loop.example/ownsquares/laws.FnExactMeetingOk", spec := "fnExactMeetingOk", unfollowed := true, recurses := true, apart := false }
def FnExactMeetingOkSaid : Prop := fnExactMeetingOkRow.holds Try.pinned (OpenSpec.ofChange fnExactMeetingOkSpec)

/-- ITS FALSE NEIGHBOUR: 'it returns false'. Refute it at one input. -/
def fnExactMeetingOkWrong : ChangeSpec := { name := "fnExactMeetingOk", fn := fun _ => fun
  | [d] => { results := [.lit (.bool false)], args := [d] }
  | _ => none }
def FnExactMeetingOkWrongFalsely : Prop := fnExactMeetingOkRow.holds Try.pinned (OpenSpec.ofChange fnExactMeetingOkWrong)

/- THE SECOND FORM. 'bulk': how many values and letters a reading holds, each counted each time it is reached (what is shared counts as often as it is met; a slice's spare places count too). A statement '..UptoSaid' is the law's where the arguments, and the package variables that the reading takes, are together of bulk at most 1048576: NARROWER than '..Said'. Prove '..Said' where nothing that the law and all that it calls make is longer than what came in: it says more and counts as full. Else prove '..UptoSaid'. A law counts once. -/
mutual
def uptoBulk {H : Type} : DataW H → Nat
  | .lit (.string bytes) => bytes.length + 1
  | .lit _ => 1
  | .nil => 1
  | .ptr d => uptoBulk d + 1
  | .slice elems spare => uptoBulkAll elems + uptoBulkAll spare + 1
  | .agg parts => uptoBulkAll parts + 1
  | .iface _ d => uptoBulk d + 1
  | .map entries => uptoBulkEntries entries + 1
  | .held _ => 1
def uptoBulkAll {H : Type} : List (DataW H) → Nat
  | [] => 0
  | d :: r => uptoBulk d + uptoBulkAll r
def uptoBulkEntries {H : Type} : List (Lit × DataW H) → Nat
  | [] => 0
  | x :: r => uptoBulkEntry x + uptoBulkEntries r
def uptoBulkEntry {H : Type} : Lit × DataW H → Nat
  | (.string bytes, d) => bytes.length + uptoBulk d + 1
  | (_, d) => uptoBulk d + 1
 end
def uptoSmall : (H : Type) → List (DataW H) → Bool := fun _ ds => decide (uptoBulkAll ds ≤ 1048576)
def OpenSpec.upto (s : _root_.Go.ChangeSpec) : _root_.Go.OpenSpec := { _root_.Go.OpenSpec.ofChange s with cond := some uptoSmall }

/-- 'laws.FnBelowOk', WHERE WHAT IT READS IS OF BULK AT MOST 1048576: true; the input reads as it did. -/
def fnBelowOkUptoRow : OpenClaim := { program := "ytcegjiiondmchaa", sum := "6d4996402527ef2c4327696e3c850e0e82b31afbf1c59a2c820472f36c4717d9", func := "loop.example/ownsquares/laws.FnBelowOk", spec := "fnBelowOk", unfollowed := true, recurses := true, apart := false, narrowed := true }
def FnBelowOkUptoSaid : Prop := fnBelowOkUptoRow.holds Try.pinned (OpenSpec.upto fnBelowOkSpec)

/-- 'laws.FnWeakBelow', WHERE WHAT IT READS IS OF BULK AT MOST 1048576: true; the input reads as it did. -/
def fnWeakBelowUptoRow : OpenClaim := { program := "ytcegjiiondmchaa", sum := "6d4996402527ef2c4327696e3c850e0e82b31afbf1c59a2c820472f36c4717d9", func := "loop.example/ownsquares/laws.FnWeakBelow", spec := "fnWeakBelow", unfollowed := true, recurses := true, apart := false, narrowed := true }
def FnWeakBelowUptoSaid : Prop := fnWeakBelowUptoRow.holds Try.pinned (OpenSpec.upto fnWeakBelowSpec)

/-- 'laws.FnUnderSet', WHERE WHAT IT READS IS OF BULK AT MOST 1048576: true; the input reads as it did. -/
def fnUnderSetUptoRow : OpenClaim := { program := "ytcegjiiondmchaa", sum := "6d4996402527ef2c4327696e3c850e0e82b31afbf1c59a2c820472f36c4717d9", func := "loop.example/ownsquares/laws.FnUnderSet", spec := "fnUnderSet", unfollowed := true, recurses := true, apart := false, narrowed := true }
def FnUnderSetUptoSaid : Prop := fnUnderSetUptoRow.holds Try.pinned (OpenSpec.upto fnUnderSetSpec)

/-- 'laws.FnHighOf', WHERE WHAT IT READS IS OF BULK AT MOST 1048576: true; the input reads as it did. -/
def fnHighOfUptoRow : OpenClaim := { program := "ytcegjiiondmchaa", sum := "6d4996402527ef2c4327696e3c850e0e82b31afbf1c59a2c820472f36c4717d9", func := "loop.example/ownsquares/laws.FnHighOf", spec := "fnHighOf", unfollowed := true, recurses := true, apart := false, narrowed := true }
def FnHighOfUptoSaid : Prop := fnHighOfUptoRow.holds Try.pinned (OpenSpec.upto fnHighOfSpec)

/-- 'laws.FnPushedInto', WHERE WHAT IT READS IS OF BULK AT MOST 1048576: true; the input reads as it did. -/
def fnPushedIntoUptoRow : OpenClaim := { program := "ytcegjiiondmchaa", sum := "6d4996402527ef2c4327696e3c850e0e82b31afbf1c59a2c820472f36c4717d9", func := "loop.example/ownsquares/laws.FnPushedInto", spec := "fnPushedInto", unfollowed := true, recurses := true, apart := false, narrowed := true }
def FnPushedIntoUptoSaid : Prop := fnPushedIntoUptoRow.holds Try.pinned (OpenSpec.upto fnPushedIntoSpec)

/-- 'laws.FnExactBelowOk', WHERE WHAT IT READS IS OF BULK AT MOST 1048576: true; the input reads as it did. -/
def fnExactBelowOkUptoRow : OpenClaim := { program := "ytcegjiiondmchaa", sum := "6d4996402527ef2c4327696e3c850e0e82b31afbf1c59a2c820472f36c4717d9", func := "loop.example/ownsquares/laws.FnExactBelowOk", spec := "fnExactBelowOk", unfollowed := true, recurses := true, apart := false, narrowed := true }
def FnExactBelowOkUptoSaid : Prop := fnExactBelowOkUptoRow.holds Try.pinned (OpenSpec.upto fnExactBelowOkSpec)

/-- 'laws.FnExactWeakBelow', WHERE WHAT IT READS IS OF BULK AT MOST 1048576: true; the input reads as it did. -/
def fnExactWeakBelowUptoRow : OpenClaim := { program := "ytcegjiiondmchaa", sum := "6d4996402527ef2c4327696e3c850e0e82b31afbf1c59a2c820472f36c4717d9", func := "loop.example/ownsquares/laws.FnExactWeakBelow", spec := "fnExactWeakBelow", unfollowed := true, recurses := true, apart := false, narrowed := true }
def FnExactWeakBelowUptoSaid : Prop := fnExactWeakBelowUptoRow.holds Try.pinned (OpenSpec.upto fnExactWeakBelowSpec)

/-- 'laws.FnExactUnderSet', WHERE WHAT IT READS IS OF BULK AT MOST 1048576: true; the input reads as it did. -/
def fnExactUnderSetUptoRow : OpenClaim := { program := "ytcegjiiondmchaa", sum := "6d4996402527ef2c4327696e3c850e0e82b31afbf1c59a2c820472f36c4717d9", func := "loop.example/ownsquares/laws.FnExactUnderSet", spec := "fnExactUnderSet", unfollowed := true, recurses := true, apart := false, narrowed := true }
def FnExactUnderSetUptoSaid : Prop := fnExactUnderSetUptoRow.holds Try.pinned (OpenSpec.upto fnExactUnderSetSpec)

/-- 'laws.FnExactHighOf', WHERE WHAT IT READS IS OF BULK AT MOST 1048576: true; the input reads as it did. -/
def fnExactHighOfUptoRow : OpenClaim := { program := "ytcegjiiondmchaa", sum := "6d4996402527ef2c4327696e3c850e0e82b31afbf1c59a2c820472f36c4717d9", func := "loop.example/ownsquares/laws.FnExactHighOf", spec := "fnExactHighOf", unfollowed := true, recurses := true, apart := false, narrowed := true }
def FnExactHighOfUptoSaid : Prop := fnExactHighOfUptoRow.holds Try.pinned (OpenSpec.upto fnExactHighOfSpec)

/-- 'laws.FnExactPushedInto', WHERE WHAT IT READS IS OF BULK AT MOST 1048576: true; the input reads as it did. -/
def fnExactPushedIntoUptoRow : OpenClaim := { program := "ytcegjiiondmchaa", sum := "6d4996402527ef2c4327696e3c850e0e82b31afbf1c59a2c820472f36c4717d9", func := "loop.example/ownsquares/laws.FnExactPushedInto", spec := "fnExactPushedInto", unfollowed := true, recurses := true, apart := false, narrowed := true }
def FnExactPushedIntoUptoSaid : Prop := fnExactPushedIntoUptoRow.holds Try.pinned (OpenSpec.upto fnExactPushedIntoSpec)

/-- 'laws.FnMeetingOk', WHERE WHAT IT READS IS OF BULK AT MOST 1048576: true; the input reads as it did. -/
def fnMeetingOkUptoRow : OpenClaim := { program := "ytcegjiiondmchaa", sum := "6d4996402527ef2c4327696e3c850e0e82b31afbf1c59a2c820472f36c4717d9", func := "loop.example/ownsquares/laws.FnMeetingOk", spec := "fnMeetingOk", unfollowed := true, recurses := true, apart := false, narrowed := true }
def FnMeetingOkUptoSaid : Prop := fnMeetingOkUptoRow.holds Try.pinned (OpenSpec.upto fnMeetingOkSpec)

/-- 'laws.FnExactMeetingOk', WHERE WHAT IT READS IS OF BULK AT MOST 1048576: true; the input reads as it did. -/
def fnExactMeetingOkUptoRow : OpenClaim := { program := "ytcegjiiondmchaa", sum := "6d4996402527ef2c4327696e3c850e0e82b31afbf1c59a2c820472f36c4717d9", func := "loop.example/ownsquares/laws.FnExactMeetingOk", spec := "fnExactMeetingOk", unfollowed := true, recurses := true, apart := false, narrowed := true }
def FnExactMeetingOkUptoSaid : Prop := fnExactMeetingOkUptoRow.holds Try.pinned (OpenSpec.upto fnExactMeetingOkSpec)

end Rows
end Go.Proofs.Ytcegjiiondmchaa
