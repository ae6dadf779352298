/-
  No cell of these rows narrows 'for every input' (looked for: loops, veiled, ifaces, maps, wideKeys, modest, calm, conditions, laid).
  DERIVED. THE GIVEN ROWS OF THIS SEAT. 12 by the template 'for every input the law returns true; each argument reads behind the call as it read before'; 0 by the template 'total and deterministic' (their statements: YtcegjiiondmchacTotals.lean).
  GIVEN WITH THE SEED: the statements are not yours to turn. If you find one false, say at which input.
  Laid BY PROGRAM, IN A SANDBOX (cutbox-rows.mjs): the forced cells as the released guide's own fill.sh prints them over the translation d0ef2b90d0c99d07… (all of the seat's roots in one cut). By AI agents, Wed Nov 11 2026. No macro, syntax, notation, axiom, sorry.
-/
import Derived.Test.YtcegjiiondmchacChecked
import GoSem.Claim
import GoSem.ClaimJoined
import GoSem.ClaimMapViews
import Derived.JoinedTies
import Derived.KernelRfl
namespace Go.Proofs.Ytcegjiiondmchac
/- THE CELL 'sum', in the pinned program and in every row, IS THE sha256 OF THE DUMP (.gsa) THAT YtcegjiiondmchacProg.lean LOADS. Nothing in Lean hashes anything: it is a label: what it is worth is what the hold of that sum in a sandbox is worth. -/
noncomputable def Try.pinned : Pinned := { name := "ytcegjiiondmchac", sum := "d0ef2b90d0c99d07724e579f37ae0d0378d0bf25d39bf0b672545a9ebc0a5cb7", checked := Try.checked }
namespace Rows
def none {H : Type} : Left H := { results := [], args := [] }

/-- 'laws.FnRectangleOf': WHATEVER THE INPUT: true; the input reads as it did. -/
def fnRectangleOfSpec : ChangeSpec := { name := "fnRectangleOf", fn := fun _ => fun
  | [d] => { results := [.lit (.bool true)], args := [d] }
  | _ => none }
def fnRectangleOfRow : OpenClaim := { program := "ytcegjiiondmchac", sum := "d0ef2b90d0c99d07724e579f37ae0d0378d0bf25d39bf0b672545a9ebc0a5cb7", func := "loop.example/ownsquares/laws.FnRectangleOf", spec := "fnRectangleOf", unfollowed := true, recurses := true, apart := false }
def FnRectangleOfSaid : Prop := fnRectangleOfRow.holds Try.pinned (OpenSpec.ofChange fnRectangleOfSpec)

/-- ITS FALSE NEIGHBOUR: 'it returns false'. Refute it at one input. -/
def fnRectangleOfWrong : ChangeSpec := { name := "fnRectangleOf", fn := fun _ => fun
  | [d] => { results := [.lit (.bool false)], args := [d] }
  | _ => none }
def FnRectangleOfWrongFalsely : Prop := fnRectangleOfRow.holds Try.pinned (OpenSpec.ofChange fnRectangleOfWrong)

/-- 'laws.FnRectangularOk': WHATEVER THE INPUT: true; the input reads as it did. -/
def fnRectangularOkSpec : ChangeSpec := { name := "fnRectangularOk", fn := fun _ => fun
  | [d] => { results := [.lit (.bool true)], args := [d] }
  | _ => none }
def fnRectangularOkRow : OpenClaim := { program := "ytcegjiiondmchac", sum := "d0ef2b90d0c99d07724e579f37ae0d0378d0bf25d39bf0b672545a9ebc0a5cb7", func := "loop.example/ownsquares/laws.FnRectangularOk", spec := "fnRectangularOk", unfollowed := true, recurses := true, apart := false }
def FnRectangularOkSaid : Prop := fnRectangularOkRow.holds Try.pinned (OpenSpec.ofChange fnRectangularOkSpec)

/-- ITS FALSE NEIGHBOUR: 'it returns false'. Refute it at one input. -/
def fnRectangularOkWrong : ChangeSpec := { name := "fnRectangularOk", fn := fun _ => fun
  | [d] => { results := [.lit (.bool false)], args := [d] }
  | _ => none }
def FnRectangularOkWrongFalsely : Prop := fnRectangularOkRow.holds Try.pinned (OpenSpec.ofChange fnRectangularOkWrong)

/-- 'laws.FnRowsOf': WHATEVER THE INPUT: true; the input reads as it did. -/
def fnRowsOfSpec : ChangeSpec := { name := "fnRowsOf", fn := fun _ => fun
  | [d] => { results := [.lit (.bool true)], args := [d] }
  | _ => none }
def fnRowsOfRow : OpenClaim := { program := "ytcegjiiondmchac", sum := "d0ef2b90d0c99d07724e579f37ae0d0378d0bf25d39bf0b672545a9ebc0a5cb7", func := "loop.example/ownsquares/laws.FnRowsOf", spec := "fnRowsOf", unfollowed := true, recurses := true, apart := false }
def FnRowsOfSaid : Prop := fnRowsOfRow.holds Try.pinned (OpenSpec.ofChange fnRowsOfSpec)

/-- ITS FALSE NEIGHBOUR: 'it returns false'. Refute it at one input. -/
def fnRowsOfWrong : ChangeSpec := { name := "fnRowsOf", fn := fun _ => fun
  | [d] => { results := [.lit (.bool false)], args := [d] }
  | _ => none }
def FnRowsOfWrongFalsely : Prop := fnRowsOfRow.holds Try.pinned (OpenSpec.ofChange fnRowsOfWrong)

/-- 'laws.FnColumnsOf': WHATEVER THE INPUT: true; the input reads as it did. -/
def fnColumnsOfSpec : ChangeSpec := { name := "fnColumnsOf", fn := fun _ => fun
  | [d] => { results := [.lit (.bool true)], args := [d] }
  | _ => none }
def fnColumnsOfRow : OpenClaim := { program := "ytcegjiiondmchac", sum := "d0ef2b90d0c99d07724e579f37ae0d0378d0bf25d39bf0b672545a9ebc0a5cb7", func := "loop.example/ownsquares/laws.FnColumnsOf", spec := "fnColumnsOf", unfollowed := true, recurses := true, apart := false }
def FnColumnsOfSaid : Prop := fnColumnsOfRow.holds Try.pinned (OpenSpec.ofChange fnColumnsOfSpec)

/-- ITS FALSE NEIGHBOUR: 'it returns false'. Refute it at one input. -/
def fnColumnsOfWrong : ChangeSpec := { name := "fnColumnsOf", fn := fun _ => fun
  | [d] => { results := [.lit (.bool false)], args := [d] }
  | _ => none }
def FnColumnsOfWrongFalsely : Prop := fnColumnsOfRow.holds Try.pinned (OpenSpec.ofChange fnColumnsOfWrong)

/-- 'laws.FnSidesOf': WHATEVER THE INPUT: true; the input reads as it did. -/
def fnSidesOfSpec : ChangeSpec := { name := "fnSidesOf", fn := fun _ => fun
  | [d] => { results := [.lit (.bool true)], args := [d] }
  | _ => none }
def fnSidesOfRow : OpenClaim := { program := "ytcegjiiondmchac", sum := "d0ef2b90d0c99d07724e579f37ae0d0378d0bf25d39bf0b672545a9ebc0a5cb7", func := "loop.example/ownsquares/laws.FnSidesOf", spec := "fnSidesOf", unfollowed := true, recurses := true, apart := false }
def FnSidesOfSaid : Prop := fnSidesOfRow.holds Try.pinned (OpenSpec.ofChange fnSidesOfSpec)

/-- ITS FALSE NEIGHBOUR: 'it returns false'. Refute it at one input. -/
def fnSidesOfWrong : ChangeSpec := { name := "fnSidesOf", fn := fun _ => fun
  | [d] => { results := [.lit (.bool false)], args := [d] }
  | _ => none }
def FnSidesOfWrongFalsely : Prop := fnSidesOfRow.holds Try.pinned (OpenSpec.ofChange fnSidesOfWrong)

/-- 'laws.FnNamedAs': WHATEVER THE INPUT: true; the input reads as it did. -/
def fnNamedAsSpec : ChangeSpec := { name := "fnNamedAs", fn := fun _ => fun
  | [d] => { results := [.lit (.bool true)], args := [d] }
  | _ => none }
def fnNamedAsRow : OpenClaim := { program := "ytcegjiiondmchac", sum := "d0ef2b90d0c99d07724e579f37ae0d0378d0bf25d39bf0b672545a9ebc0a5cb7", func := "loop.example/ownsquares/laws.FnNamedAs", spec := "fnNamedAs", unfollowed := true, recurses := true, apart := false }
def FnNamedAsSaid : Prop := fnNamedAsRow.holds Try.pinned (OpenSpec.ofChange fnNamedAsSpec)

/-- ITS FALSE NEIGHBOUR: 'it returns false'. Refute it at one input. -/
def fnNamedAsWrong : ChangeSpec := { name := "fnNamedAs", fn := fun _ => fun
  | [d] => { results := [.lit (.bool false)], args := [d] }
  | _ => none }
def FnNamedAsWrongFalsely : Prop := fnNamedAsRow.holds Try.pinned (OpenSpec.ofChange fnNamedAsWrong)

/-- 'laws.FnExactRectangleOf': WHATEVER THE INPUT: true; the input reads as it did. -/
def fnExactRectangleOfSpec : ChangeSpec := { name := "fnExactRectangleOf", fn := fun _ => fun
  | [d1, d2] => { results := [.lit (.bool true)], args := [d1, d2] }
  | _ => none }
def fnExactRectangleOfRow : OpenClaim := { program := "ytcegjiiondmchac", sum := "d0ef2b90d0c99d07724e579f37ae0d0378d0bf25d39bf0b672545a9ebc0a5cb7", func := "loop.example/ownsquares/laws.FnExactRectangleOf", spec := "fnExactRectangleOf", unfollowed := true, recurses := true, apart := false }
def FnExactRectangleOfSaid : Prop := fnExactRectangleOfRow.holds Try.pinned (OpenSpec.ofChange fnExactRectangleOfSpec)

/-- ITS FALSE NEIGHBOUR: 'it returns false'. Refute it at one input. -/
def fnExactRectangleOfWrong : ChangeSpec := { name := "fnExactRectangleOf", fn := fun _ => fun
  | [d1, d2] => { results := [.lit (.bool false)], args := [d1, d2] }
  | _ => none }
def FnExactRectangleOfWrongFalsely : Prop := fnExactRectangleOfRow.holds Try.pinned (OpenSpec.ofChange fnExactRectangleOfWrong)

/-- 'laws.FnExactRectangularOk': WHATEVER THE INPUT: true; the input reads as it did. -/
def fnExactRectangularOkSpec : ChangeSpec := { name := "fnExactRectangularOk", fn := fun _ => fun
  | [d] => { results := [.lit (.bool true)], args := [d] }
  | _ => none }
def fnExactRectangularOkRow : OpenClaim := { program := "ytcegjiiondmchac", sum := "d0ef2b90d0c99d07724e579f37ae0d0378d0bf25d39bf0b672545a9ebc0a5cb7", func := "loop.example/ownsquares/laws.FnExactRectangularOk", spec := "fnExactRectangularOk", unfollowed := true, recurses := true, apart := false }
def FnExactRectangularOkSaid : Prop := fnExactRectangularOkRow.holds Try.pinned (OpenSpec.ofChange fnExactRectangularOkSpec)

/-- ITS FALSE NEIGHBOUR: 'it returns false'. Refute it at one input. -/
def fnExactRectangularOkWrong : ChangeSpec := { name := "fnExactRectangularOk", fn := fun _ => fun
  | [d] => { results := [.lit (.bool false)], args := [d] }
  | _ => none }
def FnExactRectangularOkWrongFalsely : Prop := fnExactRectangularOkRow.holds Try.pinned (OpenSpec.ofChange fnExactRectangularOkWrong)

/-- 'laws.FnExactRowsOf': WHATEVER THE INPUT: true; the input reads as it did. -/
def fnExactRowsOfSpec : ChangeSpec := { name := "fnExactRowsOf", fn := fun _ => fun
  | [d] => { results := [.lit (.bool true)], args := [d] }
  | _ => none }
def fnExactRowsOfRow : OpenClaim := { program := "ytcegjiiondmchac", sum := "d0ef2b90d0c99d07724e579f37ae0d0378d0bf25d39bf0b672545a9ebc0a5cb7", func := "loop.example/ownsquares/laws.FnExactRowsOf", spec := "fnExactRowsOf", unfollowed := true, recurses := true, apart := false }
def FnExactRowsOfSaid : Prop := fnExactRowsOfRow.holds Try.pinned (OpenSpec.ofChange fnExactRowsOfSpec)

/-- ITS FALSE NEIGHBOUR: 'it returns false'. Refute it at one input. -/
def fnExactRowsOfWrong : ChangeSpec := { name := "fnExactRowsOf", fn := fun _ => fun
  | [d] => { results := [.lit (.bool false)], args := [d] }
  | _ => none }
def FnExactRowsOfWrongFalsely : Prop := fnExactRowsOfRow.holds Try.pinned (OpenSpec.ofChange fnExactRowsOfWrong)

/-- 'laws.FnExactColumnsOf': WHATEVER THE INPUT: true; the input reads as it did. -/
def fnExactColumnsOfSpec : ChangeSpec := { name := "fnExactColumnsOf", fn := fun _ => fun
  | [d] => { results := [.lit (.bool true)], args := [d] }
  | _ => none }
def fnExactColumnsOfRow : OpenClaim := { program := "ytcegjiiondmchac", sum := "d0ef2b90d0c99d07724e579f37ae0d0378d0bf25d39bf0b672545a9ebc0a5cb7", func := "loop.example/ownsquares/laws.FnExactColumnsOf", spec := "fnExactColumnsOf", unfollowed := true, recurses := true, apart := false }
def FnExactColumnsOfSaid : Prop := fnExactColumnsOfRow.holds Try.pinned (OpenSpec.ofChange fnExactColumnsOfSpec)

/-- ITS FALSE NEIGHBOUR: 'it returns false'. Refute it at one input. -/
def fnExactColumnsOfWrong : ChangeSpec := { name := "fnExactColumnsOf", fn := fun _ => fun
  | [d] => { results := [.lit (.bool false)], args := [d] }
  | _ => none }
def FnExactColumnsOfWrongFalsely : Prop := fnExactColumnsOfRow.holds Try.pinned (OpenSpec.ofChange fnExactColumnsOfWrong)

/-- 'laws.FnExactSidesOf': WHATEVER THE INPUT: true; the input reads as it did. -/
def fnExactSidesOfSpec : ChangeSpec := { name := "fnExactSidesOf", fn := fun _ => fun
  | [d] => { results := [.lit (.bool true)], args := [d] }
  | _ => none }
def fnExactSidesOfRow : OpenClaim := { program := "ytcegjiiondmchac", sum := "d0ef2b90d0c99d07724e579f37ae0d0378d0bf25d39bf0b672545a9ebc0a5cb7", func := "loop.example/ownsquares/laws.FnExactSidesOf", spec := "fnExactSidesOf", unfollowed := true, recurses := true, apart := false }
def FnExactSidesOfSaid : Prop := fnExactSidesOfRow.holds Try.pinned (OpenSpec.ofChange fnExactSidesOfSpec)

/-- ITS FALSE NEIGHBOUR: 'it returns false'. Refute it at one input. -/
def fnExactSidesOfWrong : ChangeSpec := { name := "fnExactSidesOf", fn := fun _ => fun
  | [d] => { results := [.lit (.bool false)], args := [d] }
  | _ => none }
def FnExactSidesOfWrongFalsely : Prop := fnExactSidesOfRow.holds Try.pinned (OpenSpec.ofChange fnExactSidesOfWrong)

/-- 'laws.FnExactNamedAs': WHATEVER THE INPUT: true; the input reads as it did. -/
def fnExactNamedAsSpec : ChangeSpec := { name := "fnExactNamedAs", fn := fun _ => fun
  | [d] => { results := [.lit (.bool true)], args := [d] }
  | _ => none }
def fnExactNamedAsRow : OpenClaim := { program := "ytcegjiiondmchac", sum := "d0ef2b90d0c99d07724e579f37ae0d0378d0bf25d39bf0b672545a9ebc0a5cb7", func := "loop.example/ownsquares/laws.FnExactNamedAs", spec := "fnExactNamedAs", unfollowed := true, recurses := true, apart := false }
def FnExactNamedAsSaid : Prop := fnExactNamedAsRow.holds Try.pinned (OpenSpec.ofChange fnExactNamedAsSpec)

/-- ITS FALSE NEIGHBOUR: 'it returns false'. Refute it at one input. -/
def fnExactNamedAsWrong : ChangeSpec := { name := "fnExactNamedAs", fn := fun _ => fun
  | [d] => { results := [.lit (.bool false)], args := [d] }
  | _ => none }
def FnExactNamedAsWrongFalsely : Prop := fnExactNamedAsRow.holds Try.pinned (OpenSpec.ofChange fnExactNamedAsWrong)

/- THE SECOND FORM. 'bulk': how many values and letters a reading holds, each counted each time it is reached (what is shared counts as often as it is met; a slice's spare places count too). A statement '..UptoSaid' is the law's where the arguments, and the package variables that the reading takes, are together of bulk at most 1048576: NARROWER than '..Said'. Prove '..Said' where nothing that the law and all that it calls make is longer than what came in: it says more and counts as full. Else prove '..UptoSaid'. A law counts once. -/
mutual
def uptoBulk {H : Type} : DataW H → Nat
  | .lit (.string bytes) => bytes.length + 1
  | .lit _ => 1
  | .nil => 1
  | .ptr d => uptoBulk d + 1
  | .slice elems spare => uptoBulkAll elems + uptoBulkAll spare + 1
  | .agg parts => uptoBulkAll parts + 1
  | .iface _ d => uptoBulk d + 1
  | .map entries => uptoBulkEntries entries + 1
  | .held _ => 1
def uptoBulkAll {H : Type} : List (DataW H) → Nat
  | [] => 0
  | d :: r => uptoBulk d + uptoBulkAll r
def uptoBulkEntries {H : Type} : List (Lit × DataW H) → Nat
  | [] => 0
  | x :: r => uptoBulkEntry x + uptoBulkEntries r
def uptoBulkEntry {H : Type} : Lit × DataW H → Nat
  | (.string bytes, d) => bytes.length + uptoBulk d + 1
  | (_, d) => uptoBulk d + 1
 end
def uptoSmall : (H : Type) → List (DataW H) → Bool := fun _ ds => decide (uptoBulkAll ds ≤ 1048576)
def OpenSpec.upto (s : _root_.Go.ChangeSpec) : _root_.Go.OpenSpec := { _root_.Go.OpenSpec.ofChange s with cond := some uptoSmall }

/-- 'laws.FnRectangleOf', WHERE WHAT IT READS IS OF BULK AT MOST 1048576: true; the input reads as it did. -/
def fnRectangleOfUptoRow : OpenClaim := { program := "ytcegjiiondmchac", sum := "d0ef2b90d0c99d07724e579f37ae0d0378d0bf25d39bf0b672545a9ebc0a5cb7", func := "loop.example/ownsquares/laws.FnRectangleOf", spec := "fnRectangleOf", unfollowed := true, recurses := true, apart := false, narrowed := true }
def FnRectangleOfUptoSaid : Prop := fnRectangleOfUptoRow.holds Try.pinned (OpenSpec.upto fnRectangleOfSpec)

/-- 'laws.FnRectangularOk', WHERE WHAT IT READS IS OF BULK AT MOST 1048576: true; the input reads as it did. -/
def fnRectangularOkUptoRow : OpenClaim := { program := "ytcegjiiondmchac", sum := "d0ef2b90d0c99d07724e579f37ae0d0378d0bf25d39bf0b672545a9ebc0a5cb7", func := "loop.example/ownsquares/laws.FnRectangularOk", spec := "fnRectangularOk", unfollowed := true, recurses := true, apart := false, narrowed := true }
def FnRectangularOkUptoSaid : Prop := fnRectangularOkUptoRow.holds Try.pinned (OpenSpec.upto fnRectangularOkSpec)

/-- 'laws.FnRowsOf', WHERE WHAT IT READS IS OF BULK AT MOST 1048576: true; the input reads as it did. -/
def fnRowsOfUptoRow : OpenClaim := { program := "ytcegjiiondmchac", sum := "d0ef2b90d0c99d07724e579f37ae0d0378d0bf25d39bf0b672545a9ebc0a5cb7", func := "loop.example/ownsquares/laws.FnRowsOf", spec := "fnRowsOf", unfollowed := true, recurses := true, apart := false, narrowed := true }
def FnRowsOfUptoSaid : Prop := fnRowsOfUptoRow.holds Try.pinned (OpenSpec.upto fnRowsOfSpec)

/-- 'laws.FnColumnsOf', WHERE WHAT IT READS IS OF BULK AT MOST 1048576: true; the input reads as it did. -/
def fnColumnsOfUptoRow : OpenClaim := { program := "ytcegjiiondmchac", sum := "d0ef2b90d0c99d07724e579f37ae0d0378d0bf25d39bf0b672545a9ebc0a5cb7", func := "loop.example/ownsquares/laws.FnColumnsOf", spec := "fnColumnsOf", unfollowed := true, recurses := true, apart := false, narrowed := true }
def FnColumnsOfUptoSaid : Prop := fnColumnsOfUptoRow.holds Try.pinned (OpenSpec.upto fnColumnsOfSpec)

/-- 'laws.FnSidesOf', WHERE WHAT IT READS IS OF BULK AT MOST 1048576: true; the input reads as it did. -/
def fnSidesOfUptoRow : OpenClaim := { program := "ytcegjiiondmchac", sum := "d0ef2b90d0c99d07724e579f37ae0d0378d0bf25d39bf0b672545a9ebc0a5cb7", func := "loop.example/ownsquares/laws.FnSidesOf", spec := "fnSidesOf", unfollowed := true, recurses := true, apart := false, narrowed := true }
def FnSidesOfUptoSaid : Prop := fnSidesOfUptoRow.holds Try.pinned (OpenSpec.upto fnSidesOfSpec)

/-- 'laws.FnNamedAs', WHERE WHAT IT READS IS OF BULK AT MOST 1048576: true; the input reads as it did. -/
def fnNamedAsUptoRow : OpenClaim := { program := "ytcegjiiondmchac", sum := "d0ef2b90d0c99d07724e579f37ae0d0378d0bf25d39bf0b672545a9ebc0a5cb7", func := "loop.example/ownsquares/laws.FnNamedAs", spec := "fnNamedAs", unfollowed := true, recurses := true, apart := false, narrowed := true }
def FnNamedAsUptoSaid : Prop := fnNamedAsUptoRow.holds Try.pinned (OpenSpec.upto fnNamedAsSpec)

/-- 'laws.FnExactRectangleOf', WHERE WHAT IT READS IS OF BULK AT MOST 1048576: true; the input reads as it did. -/
def fnExactRectangleOfUptoRow : OpenClaim := { program := "ytcegjiiondmchac", sum := "d0ef2b90d0c99d07724e579f37ae0d0378d0bf25d39bf0b672545a9ebc0a5cb7", func := "loop.example/ownsquares/laws.FnExactRectangleOf", spec := "fnExactRectangleOf", unfollowed := true, recurses := true, apart := false, narrowed := true }
def FnExactRectangleOfUptoSaid : Prop := fnExactRectangleOfUptoRow.holds Try.pinned (OpenSpec.upto fnExactRectangleOfSpec)

/-- 'laws.FnExactRectangularOk', WHERE WHAT IT READS IS OF BULK AT MOST 1048576: true; the input reads as it did. -/
def fnExactRectangularOkUptoRow : OpenClaim := { program := "ytcegjiiondmchac", sum := "d0ef2b90d0c99d07724e579f37ae0d0378d0bf25d39bf0b672545a9ebc0a5cb7", func := "loop.example/ownsquares/laws.FnExactRectangularOk", spec := "fnExactRectangularOk", unfollowed := true, recurses := true, apart := false, narrowed := true }
def FnExactRectangularOkUptoSaid : Prop := fnExactRectangularOkUptoRow.holds Try.pinned (OpenSpec.upto fnExactRectangularOkSpec)

/-- 'laws.FnExactRowsOf', WHERE WHAT IT READS IS OF BULK AT MOST 1048576: true; the input reads as it did. -/
def fnExactRowsOfUptoRow : OpenClaim := { program := "ytcegjiiondmchac", sum := "d0ef2b90d0c99d07724e579f37ae0d0378d0bf25d39bf0b672545a9ebc0a5cb7", func := "loop.example/ownsquares/laws.FnExactRowsOf", spec := "fnExactRowsOf", unfollowed := true, recurses := true, apart := false, narrowed := true }
def FnExactRowsOfUptoSaid : Prop := fnExactRowsOfUptoRow.holds Try.pinned (OpenSpec.upto fnExactRowsOfSpec)

/-- 'laws.FnExactColumnsOf', WHERE WHAT IT READS IS OF BULK AT MOST 1048576: true; the input reads as it did. -/
def fnExactColumnsOfUptoRow : OpenClaim := { program := "ytcegjiiondmchac", sum := "d0ef2b90d0c99d07724e579f37ae0d0378d0bf25d39bf0b672545a9ebc0a5cb7", func := "loop.example/ownsquares/laws.FnExactColumnsOf", spec := "fnExactColumnsOf", unfollowed := true, recurses := true, apart := false, narrowed := true }
def FnExactColumnsOfUptoSaid : Prop := fnExactColumnsOfUptoRow.holds Try.pinned (OpenSpec.upto fnExactColumnsOfSpec)

/-- 'laws.FnExactSidesOf', WHERE WHAT IT READS IS OF BULK AT MOST 1048576: true; the input reads as it did. -/
def fnExactSidesOfUptoRow : OpenClaim := { program := "ytcegjiiondmchac", sum := "d0ef2b90d0c99d07724e579f37ae0d0378d0bf25d39bf0b672545a9ebc0a5cb7", func := "loop.example/ownsquares/laws.FnExactSidesOf", spec := "fnExactSidesOf", unfollowed := true, recurses := true, apart := false, narrowed := true }
def FnExactSidesOfUptoSaid : Prop := fnExactSidesOfUptoRow.holds Try.pinned (OpenSpec.upto fnExactSidesOfSpec)

/-- 'laws.FnExactNamedAs', WHERE WHAT IT READS IS OF BULK AT MOST 1048576: true; the input reads as it did. -/
def fnExactNamedAsUptoRow : OpenClaim := { program := "ytcegjiiondmchac", sum := "d0ef2b90d0c99d07724e579f37ae0d0378d0bf25d39bf0b672545a9ebc0a5cb7", func := "loop.example/ownsquares/laws.FnExactNamedAs", spec := "fnExactNamedAs", unfollowed := true, recurses := true, apart := false, narrowed := true }
def FnExactNamedAsUptoSaid : Prop := fnExactNamedAsUptoRow.holds Try.pinned (OpenSpec.upto fnExactNamedAsSpec)

end Rows
end Go.Proofs.Ytcegjiiondmchac
