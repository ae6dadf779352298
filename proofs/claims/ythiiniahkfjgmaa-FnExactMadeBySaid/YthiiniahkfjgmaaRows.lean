/-
  No cell of these rows narrows 'for every input' (looked for: loops, veiled, ifaces, maps, wideKeys, modest, calm, conditions, laid).
  DERIVED. THE GIVEN ROWS OF THIS SEAT. 14 by the template 'for every input the law returns true; each argument reads behind the call as it read before'; 0 by the template 'total and deterministic' (their statements: YthiiniahkfjgmaaTotals.lean).
  GIVEN WITH THE SEED: the statements are not yours to turn. If you find one false, say at which input.
  Laid BY PROGRAM, IN A SANDBOX (cutbox-rows.mjs): the forced cells as the released guide's own fill.sh prints them over the translation 93d9b9e6bf6b88db… (all of the seat's roots in one cut). By AI agents, Wed Nov 11 2026. No macro, syntax, notation, axiom, sorry.
-/
import Derived.Test.YthiiniahkfjgmaaChecked
import GoSem.Claim
import GoSem.ClaimJoined
import GoSem.ClaimMapViews
import Derived.JoinedTies
import Derived.KernelRfl
namespace Go.Proofs.Ythiiniahkfjgmaa
/- THE CELL 'sum', in the pinned program and in every row, IS THE sha256 OF THE DUMP (.gsa) THAT YthiiniahkfjgmaaProg.lean LOADS. Nothing in Lean hashes anything: it is a label: what it is worth is what the hold of that sum in a sandbox is worth. -/
noncomputable def Try.pinned : Pinned := { name := "ythiiniahkfjgmaa", sum := "93d9b9e6bf6b88dbf18babd62e5b077f46f9cb44bc066255b787f12e6ddbd740", checked := Try.checked }
namespace Rows
def none {H : Type} : Left H := { results := [], args := [] }

/-- 'laws.FnTableOk': WHATEVER THE INPUT: true; the input reads as it did. -/
def fnTableOkSpec : ChangeSpec := { name := "fnTableOk", fn := fun _ => fun
  | [d] => { results := [.lit (.bool true)], args := [d] }
  | _ => none }
def fnTableOkRow : OpenClaim := { program := "ythiiniahkfjgmaa", sum := "93d9b9e6bf6b88dbf18babd62e5b077f46f9cb44bc066255b787f12e6ddbd740", func := "loop.example/ownsquares/laws.FnTableOk", spec := "fnTableOk", unfollowed := true, recurses := true, apart := false }
def FnTableOkSaid : Prop := fnTableOkRow.holds Try.pinned (OpenSpec.ofChange fnTableOkSpec)

/-- ITS FALSE NEIGHBOUR: 'it returns false'. Refute it at one input. -/
def fnTableOkWrong : ChangeSpec := { name := "fnTableOk", fn := fun _ => fun
  | [d] => { results := [.lit (.bool false)], args := [d] }
  | _ => none }
def FnTableOkWrongFalsely : Prop := fnTableOkRow.holds Try.pinned (OpenSpec.ofChange fnTableOkWrong)

/-- 'laws.FnGroupedOk': WHATEVER THE INPUT: true; the input reads as it did. -/
def fnGroupedOkSpec : ChangeSpec := { name := "fnGroupedOk", fn := fun _ => fun
  | [d] => { results := [.lit (.bool true)], args := [d] }
  | _ => none }
def fnGroupedOkRow : OpenClaim := { program := "ythiiniahkfjgmaa", sum := "93d9b9e6bf6b88dbf18babd62e5b077f46f9cb44bc066255b787f12e6ddbd740", func := "loop.example/ownsquares/laws.FnGroupedOk", spec := "fnGroupedOk", unfollowed := true, recurses := true, apart := false }
def FnGroupedOkSaid : Prop := fnGroupedOkRow.holds Try.pinned (OpenSpec.ofChange fnGroupedOkSpec)

/-- ITS FALSE NEIGHBOUR: 'it returns false'. Refute it at one input. -/
def fnGroupedOkWrong : ChangeSpec := { name := "fnGroupedOk", fn := fun _ => fun
  | [d] => { results := [.lit (.bool false)], args := [d] }
  | _ => none }
def FnGroupedOkWrongFalsely : Prop := fnGroupedOkRow.holds Try.pinned (OpenSpec.ofChange fnGroupedOkWrong)

/-- 'laws.FnProductOf': WHATEVER THE INPUT: true; the input reads as it did. -/
def fnProductOfSpec : ChangeSpec := { name := "fnProductOf", fn := fun _ => fun
  | [d] => { results := [.lit (.bool true)], args := [d] }
  | _ => none }
def fnProductOfRow : OpenClaim := { program := "ythiiniahkfjgmaa", sum := "93d9b9e6bf6b88dbf18babd62e5b077f46f9cb44bc066255b787f12e6ddbd740", func := "loop.example/ownsquares/laws.FnProductOf", spec := "fnProductOf", unfollowed := true, recurses := true, apart := false }
def FnProductOfSaid : Prop := fnProductOfRow.holds Try.pinned (OpenSpec.ofChange fnProductOfSpec)

/-- ITS FALSE NEIGHBOUR: 'it returns false'. Refute it at one input. -/
def fnProductOfWrong : ChangeSpec := { name := "fnProductOf", fn := fun _ => fun
  | [d] => { results := [.lit (.bool false)], args := [d] }
  | _ => none }
def FnProductOfWrongFalsely : Prop := fnProductOfRow.holds Try.pinned (OpenSpec.ofChange fnProductOfWrong)

/-- 'laws.FnTurnedOf': WHATEVER THE INPUT: true; the input reads as it did. -/
def fnTurnedOfSpec : ChangeSpec := { name := "fnTurnedOf", fn := fun _ => fun
  | [d] => { results := [.lit (.bool true)], args := [d] }
  | _ => none }
def fnTurnedOfRow : OpenClaim := { program := "ythiiniahkfjgmaa", sum := "93d9b9e6bf6b88dbf18babd62e5b077f46f9cb44bc066255b787f12e6ddbd740", func := "loop.example/ownsquares/laws.FnTurnedOf", spec := "fnTurnedOf", unfollowed := true, recurses := true, apart := false }
def FnTurnedOfSaid : Prop := fnTurnedOfRow.holds Try.pinned (OpenSpec.ofChange fnTurnedOfSpec)

/-- ITS FALSE NEIGHBOUR: 'it returns false'. Refute it at one input. -/
def fnTurnedOfWrong : ChangeSpec := { name := "fnTurnedOf", fn := fun _ => fun
  | [d] => { results := [.lit (.bool false)], args := [d] }
  | _ => none }
def FnTurnedOfWrongFalsely : Prop := fnTurnedOfRow.holds Try.pinned (OpenSpec.ofChange fnTurnedOfWrong)

/-- 'laws.FnTimesOf': WHATEVER THE INPUT: true; the input reads as it did. -/
def fnTimesOfSpec : ChangeSpec := { name := "fnTimesOf", fn := fun _ => fun
  | [d] => { results := [.lit (.bool true)], args := [d] }
  | _ => none }
def fnTimesOfRow : OpenClaim := { program := "ythiiniahkfjgmaa", sum := "93d9b9e6bf6b88dbf18babd62e5b077f46f9cb44bc066255b787f12e6ddbd740", func := "loop.example/ownsquares/laws.FnTimesOf", spec := "fnTimesOf", unfollowed := true, recurses := true, apart := false }
def FnTimesOfSaid : Prop := fnTimesOfRow.holds Try.pinned (OpenSpec.ofChange fnTimesOfSpec)

/-- ITS FALSE NEIGHBOUR: 'it returns false'. Refute it at one input. -/
def fnTimesOfWrong : ChangeSpec := { name := "fnTimesOf", fn := fun _ => fun
  | [d] => { results := [.lit (.bool false)], args := [d] }
  | _ => none }
def FnTimesOfWrongFalsely : Prop := fnTimesOfRow.holds Try.pinned (OpenSpec.ofChange fnTimesOfWrong)

/-- 'laws.FnMadeBy': WHATEVER THE INPUT: true; the input reads as it did. -/
def fnMadeBySpec : ChangeSpec := { name := "fnMadeBy", fn := fun _ => fun
  | [d] => { results := [.lit (.bool true)], args := [d] }
  | _ => none }
def fnMadeByRow : OpenClaim := { program := "ythiiniahkfjgmaa", sum := "93d9b9e6bf6b88dbf18babd62e5b077f46f9cb44bc066255b787f12e6ddbd740", func := "loop.example/ownsquares/laws.FnMadeBy", spec := "fnMadeBy", apart := false }
def FnMadeBySaid : Prop := fnMadeByRow.holds Try.pinned (OpenSpec.ofChange fnMadeBySpec)

/-- ITS FALSE NEIGHBOUR: 'it returns false'. Refute it at one input. -/
def fnMadeByWrong : ChangeSpec := { name := "fnMadeBy", fn := fun _ => fun
  | [d] => { results := [.lit (.bool false)], args := [d] }
  | _ => none }
def FnMadeByWrongFalsely : Prop := fnMadeByRow.holds Try.pinned (OpenSpec.ofChange fnMadeByWrong)

/-- 'laws.FnPartOf': WHATEVER THE INPUT: true; the input reads as it did. -/
def fnPartOfSpec : ChangeSpec := { name := "fnPartOf", fn := fun _ => fun
  | [d] => { results := [.lit (.bool true)], args := [d] }
  | _ => none }
def fnPartOfRow : OpenClaim := { program := "ythiiniahkfjgmaa", sum := "93d9b9e6bf6b88dbf18babd62e5b077f46f9cb44bc066255b787f12e6ddbd740", func := "loop.example/ownsquares/laws.FnPartOf", spec := "fnPartOf", unfollowed := true, recurses := true, apart := false }
def FnPartOfSaid : Prop := fnPartOfRow.holds Try.pinned (OpenSpec.ofChange fnPartOfSpec)

/-- ITS FALSE NEIGHBOUR: 'it returns false'. Refute it at one input. -/
def fnPartOfWrong : ChangeSpec := { name := "fnPartOf", fn := fun _ => fun
  | [d] => { results := [.lit (.bool false)], args := [d] }
  | _ => none }
def FnPartOfWrongFalsely : Prop := fnPartOfRow.holds Try.pinned (OpenSpec.ofChange fnPartOfWrong)

/-- 'laws.FnExactTableOk': WHATEVER THE INPUT: true; the input reads as it did. -/
def fnExactTableOkSpec : ChangeSpec := { name := "fnExactTableOk", fn := fun _ => fun
  | [d] => { results := [.lit (.bool true)], args := [d] }
  | _ => none }
def fnExactTableOkRow : OpenClaim := { program := "ythiiniahkfjgmaa", sum := "93d9b9e6bf6b88dbf18babd62e5b077f46f9cb44bc066255b787f12e6ddbd740", func := "loop.example/ownsquares/laws.FnExactTableOk", spec := "fnExactTableOk", apart := false }
def FnExactTableOkSaid : Prop := fnExactTableOkRow.holds Try.pinned (OpenSpec.ofChange fnExactTableOkSpec)

/-- ITS FALSE NEIGHBOUR: 'it returns false'. Refute it at one input. -/
def fnExactTableOkWrong : ChangeSpec := { name := "fnExactTableOk", fn := fun _ => fun
  | [d] => { results := [.lit (.bool false)], args := [d] }
  | _ => none }
def FnExactTableOkWrongFalsely : Prop := fnExactTableOkRow.holds Try.pinned (OpenSpec.ofChange fnExactTableOkWrong)

/-- 'laws.FnExactGroupedOk': WHATEVER THE INPUT: true; the input reads as it did. -/
def fnExactGroupedOkSpec : ChangeSpec := { name := "fnExactGroupedOk", fn := fun _ => fun
  | [d] => { results := [.lit (.bool true)], args := [d] }
  | _ => none }
def fnExactGroupedOkRow : OpenClaim := { program := "ythiiniahkfjgmaa", sum := "93d9b9e6bf6b88dbf18babd62e5b077f46f9cb44bc066255b787f12e6ddbd740", func := "loop.example/ownsquares/laws.FnExactGroupedOk", spec := "fnExactGroupedOk", apart := false }
def FnExactGroupedOkSaid : Prop := fnExactGroupedOkRow.holds Try.pinned (OpenSpec.ofChange fnExactGroupedOkSpec)

/-- ITS FALSE NEIGHBOUR: 'it returns false'. Refute it at one input. -/
def fnExactGroupedOkWrong : ChangeSpec := { name := "fnExactGroupedOk", fn := fun _ => fun
  | [d] => { results := [.lit (.bool false)], args := [d] }
  | _ => none }
def FnExactGroupedOkWrongFalsely : Prop := fnExactGroupedOkRow.holds Try.pinned (OpenSpec.ofChange fnExactGroupedOkWrong)

/-- 'laws.FnExactProductOf': WHATEVER THE INPUT: true; the input reads as it did. -/
def fnExactProductOfSpec : ChangeSpec := { name := "fnExactProductOf", fn := fun _ => fun
  | [d1, d2] => { results := [.lit (.bool true)], args := [d1, d2] }
  | _ => none }
def fnExactProductOfRow : OpenClaim := { program := "ythiiniahkfjgmaa", sum := "93d9b9e6bf6b88dbf18babd62e5b077f46f9cb44bc066255b787f12e6ddbd740", func := "loop.example/ownsquares/laws.FnExactProductOf", spec := "fnExactProductOf", unfollowed := true, recurses := true, apart := false }
def FnExactProductOfSaid : Prop := fnExactProductOfRow.holds Try.pinned (OpenSpec.ofChange fnExactProductOfSpec)

/-- ITS FALSE NEIGHBOUR: 'it returns false'. Refute it at one input. -/
def fnExactProductOfWrong : ChangeSpec := { name := "fnExactProductOf", fn := fun _ => fun
  | [d1, d2] => { results := [.lit (.bool false)], args := [d1, d2] }
  | _ => none }
def FnExactProductOfWrongFalsely : Prop := fnExactProductOfRow.holds Try.pinned (OpenSpec.ofChange fnExactProductOfWrong)

/-- 'laws.FnExactTurnedOf': WHATEVER THE INPUT: true; the input reads as it did. -/
def fnExactTurnedOfSpec : ChangeSpec := { name := "fnExactTurnedOf", fn := fun _ => fun
  | [d] => { results := [.lit (.bool true)], args := [d] }
  | _ => none }
def fnExactTurnedOfRow : OpenClaim := { program := "ythiiniahkfjgmaa", sum := "93d9b9e6bf6b88dbf18babd62e5b077f46f9cb44bc066255b787f12e6ddbd740", func := "loop.example/ownsquares/laws.FnExactTurnedOf", spec := "fnExactTurnedOf", unfollowed := true, recurses := true, apart := false }
def FnExactTurnedOfSaid : Prop := fnExactTurnedOfRow.holds Try.pinned (OpenSpec.ofChange fnExactTurnedOfSpec)

/-- ITS FALSE NEIGHBOUR: 'it returns false'. Refute it at one input. -/
def fnExactTurnedOfWrong : ChangeSpec := { name := "fnExactTurnedOf", fn := fun _ => fun
  | [d] => { results := [.lit (.bool false)], args := [d] }
  | _ => none }
def FnExactTurnedOfWrongFalsely : Prop := fnExactTurnedOfRow.holds Try.pinned (OpenSpec.ofChange fnExactTurnedOfWrong)

/-- 'laws.FnExactTimesOf': WHATEVER THE INPUT: true; the input reads as it did. -/
def fnExactTimesOfSpec : ChangeSpec := { name := "fnExactTimesOf", fn := fun _ => fun
  | [d1, d2] => { results := [.lit (.bool true)], args := [d1, d2] }
  | _ => none }
def fnExactTimesOfRow : OpenClaim := { program := "ythiiniahkfjgmaa", sum := "93d9b9e6bf6b88dbf18babd62e5b077f46f9cb44bc066255b787f12e6ddbd740", func := "loop.example/ownsquares/laws.FnExactTimesOf", spec := "fnExactTimesOf", unfollowed := true, recurses := true, apart := false }
def FnExactTimesOfSaid : Prop := fnExactTimesOfRow.holds Try.pinned (OpenSpec.ofChange fnExactTimesOfSpec)

/-- ITS FALSE NEIGHBOUR: 'it returns false'. Refute it at one input. -/
def fnExactTimesOfWrong : ChangeSpec := { name := "fnExactTimesOf", fn := fun _ => fun
  | [d1, d2] => { results := [.lit (.bool false)], args := [d1, d2] }
  | _ => none }
def FnExactTimesOfWrongFalsely : Prop := fnExactTimesOfRow.holds Try.pinned (OpenSpec.ofChange fnExactTimesOfWrong)

/-- 'laws.FnExactMadeBy': WHATEVER THE INPUT: true; the input reads as it did. -/
def fnExactMadeBySpec : ChangeSpec := { name := "fnExactMadeBy", fn := fun _ => fun
  | [d1, d2] => { results := [.lit (.bool true)], args := [d1, d2] }
  | _ => none }
def fnExactMadeByRow : OpenClaim := { program := "ythiiniahkfjgmaa", sum := "93d9b9e6bf6b88dbf18babd62e5b077f46f9cb44bc066255b787f12e6ddbd740", func := "loop.example/ownsquares/laws.FnExactMadeBy", spec := "fnExactMadeBy", apart := false }
def FnExactMadeBySaid : Prop := fnExactMadeByRow.holds Try.pinned (OpenSpec.ofChange fnExactMadeBySpec)

/-- ITS FALSE NEIGHBOUR: 'it returns false'. Refute it at one input. -/
def fnExactMadeByWrong : ChangeSpec := { name := "fnExactMadeBy", fn := fun _ => fun
  | [d1, d2] => { results := [.lit (.bool false)], args := [d1, d2] }
  | _ => none }
def FnExactMadeByWrongFalsely : Prop := fnExactMadeByRow.holds Try.pinned (OpenSpec.ofChange fnExactMadeByWrong)

/-- 'laws.FnExactPartOf': WHATEVER THE INPUT: true; the input reads as it did. -/
def fnExactPartOfSpec : ChangeSpec := { name := "fnExactPartOf", fn := fun _ => fun
  | [d1, d2] => { results := [.lit (.bool true)], args := [d1, d2] }
  | _ => none }
def fnExactPartOfRow : OpenClaim := { program := "ythiiniahkfjgmaa", sum := "93d9b9e6bf6b88dbf18babd62e5b077f46f9cb44bc066255b787f12e6ddbd740", func := "loop.example/ownsquares/laws.FnExactPartOf", spec := "fnExactPartOf", unfollowed := true, recurses := true, apart := false }
def FnExactPartOfSaid : Prop := fnExactPartOfRow.holds Try.pinned (OpenSpec.ofChange fnExactPartOfSpec)

/-- ITS FALSE NEIGHBOUR: 'it returns false'. Refute it at one input. -/
def fnExactPartOfWrong : ChangeSpec := { name := "fnExactPartOf", fn := fun _ => fun
  | [d1, d2] => { results := [.lit (.bool false)], args := [d1, d2] }
  | _ => none }
def FnExactPartOfWrongFalsely : Prop := fnExactPartOfRow.holds Try.pinned (OpenSpec.ofChange fnExactPartOfWrong)

/- THE SECOND FORM. 'bulk': how many values and letters a reading holds, each counted each time it is reached (what is shared counts as often as it is met; a slice's spare places count too). A statement '..UptoSaid' is the law's where the arguments, and the package variables that the reading takes, are together of bulk at most 1048576: NARROWER than '..Said'. Prove '..Said' where nothing that the law and all that it calls make is longer than what came in: it says more and counts as full. Else prove '..UptoSaid'. A law counts once. -/
mutual
def uptoBulk {H : Type} : DataW H → Nat
  | .lit (.string bytes) => bytes.length + 1
  | .lit _ => 1
  | .nil => 1
  | .ptr d => uptoBulk d + 1
  | .slice elems spare => uptoBulkAll elems + uptoBulkAll spare + 1
  | .agg parts => uptoBulkAll parts + 1
  | .iface _ d => uptoBulk d + 1
  | .map entries => uptoBulkEntries entries + 1
  | .held _ => 1
def uptoBulkAll {H : Type} : List (DataW H) → Nat
  | [] => 0
  | d :: r => uptoBulk d + uptoBulkAll r
def uptoBulkEntries {H : Type} : List (Lit × DataW H) → Nat
  | [] => 0
  | x :: r => uptoBulkEntry x + uptoBulkEntries r
def uptoBulkEntry {H : Type} : Lit × DataW H → Nat
  | (.string bytes, d) => bytes.length + uptoBulk d + 1
  | (_, d) => uptoBulk d + 1
 end
def uptoSmall : (H : Type) → List (DataW H) → Bool := fun _ ds => decide (uptoBulkAll ds ≤ 1048576)
def OpenSpec.upto (s : _root_.Go.ChangeSpec) : _root_.Go.OpenSpec := { _root_.Go.OpenSpec.ofChange s with cond := some uptoSmall }

/-- 'laws.FnTableOk', WHERE WHAT IT READS IS OF BULK AT MOST 1048576: true; the input reads as it did. -/
def fnTableOkUptoRow : OpenClaim := { program := "ythiiniahkfjgmaa", sum := "93d9b9e6bf6b88dbf18babd62e5b077f46f9cb44bc066255b787f12e6ddbd740", func := "loop.example/ownsquares/laws.FnTableOk", spec := "fnTableOk", unfollowed := true, recurses := true, apart := false, narrowed := true }
def FnTableOkUptoSaid : Prop := fnTableOkUptoRow.holds Try.pinned (OpenSpec.upto fnTableOkSpec)

/-- 'laws.FnGroupedOk', WHERE WHAT IT READS IS OF BULK AT MOST 1048576: true; the input reads as it did. -/
def fnGroupedOkUptoRow : OpenClaim := { program := "ythiiniahkfjgmaa", sum := "93d9b9e6bf6b88dbf18babd62e5b077f46f9cb44bc066255b787f12e6ddbd740", func := "loop.example/ownsquares/laws.FnGroupedOk", spec := "fnGroupedOk", unfollowed := true, recurses := true, apart := false, narrowed := true }
def FnGroupedOkUptoSaid : Prop := fnGroupedOkUptoRow.holds Try.pinned (OpenSpec.upto fnGroupedOkSpec)

/-- 'laws.FnProductOf', WHERE WHAT IT READS IS OF BULK AT MOST 1048576: true; the input reads as it did. -/
def fnProductOfUptoRow : OpenClaim := { program := "ythiiniahkfjgmaa", sum := "93d9b9e6bf6b88dbf18babd62e5b077f46f9cb44bc066255b787f12e6ddbd740", func := "loop.example/ownsquares/laws.FnProductOf", spec := "fnProductOf", unfollowed := true, recurses := true, apart := false, narrowed := true }
def FnProductOfUptoSaid : Prop := fnProductOfUptoRow.holds Try.pinned (OpenSpec.upto fnProductOfSpec)

/-- 'laws.FnTurnedOf', WHERE WHAT IT READS IS OF BULK AT MOST 1048576: true; the input reads as it did. -/
def fnTurnedOfUptoRow : OpenClaim := { program := "ythiiniahkfjgmaa", sum := "93d9b9e6bf6b88dbf18babd62e5b077f46f9cb44bc066255b787f12e6ddbd740", func := "loop.example/ownsquares/laws.FnTurnedOf", spec := "fnTurnedOf", unfollowed := true, recurses := true, apart := false, narrowed := true }
def FnTurnedOfUptoSaid : Prop := fnTurnedOfUptoRow.holds Try.pinned (OpenSpec.upto fnTurnedOfSpec)

/-- 'laws.FnTimesOf', WHERE WHAT IT READS IS OF BULK AT MOST 1048576: true; the input reads as it did. -/
def fnTimesOfUptoRow : OpenClaim := { program := "ythiiniahkfjgmaa", sum := "93d9b9e6bf6b88dbf18babd62e5b077f46f9cb44bc066255b787f12e6ddbd740", func := "loop.example/ownsquares/laws.FnTimesOf", spec := "fnTimesOf", unfollowed := true, recurses := true, apart := false, narrowed := true }
def FnTimesOfUptoSaid : Prop := fnTimesOfUptoRow.holds Try.pinned (OpenSpec.upto fnTimesOfSpec)

/-- 'laws.FnMadeBy', WHERE WHAT IT READS IS OF BULK AT MOST 1048576: true; the input reads as it did. -/
def fnMadeByUptoRow : OpenClaim := { program := "ythiiniahkfjgmaa", sum := "93d9b9e6bf6b88dbf18babd62e5b077f46f9cb44bc066255b787f12e6ddbd740", func := "loop.example/ownsquares/laws.FnMadeBy", spec := "fnMadeBy", apart := false, narrowed := true }
def FnMadeByUptoSaid : Prop := fnMadeByUptoRow.holds Try.pinned (OpenSpec.upto fnMadeBySpec)

/-- 'laws.FnPartOf', WHERE WHAT IT READS IS OF BULK AT MOST 1048576: true; the input reads as it did. -/
def fnPartOfUptoRow : OpenClaim := { program := "ythiiniahkfjgmaa", sum := "93d9b9e6bf6b88dbf18babd62e5b077f46f9cb44bc066255b787f12e6ddbd740", func := "loop.example/ownsquares/laws.FnPartOf", spec := "fnPartOf", unfollowed := true, recurses := true, apart := false, narrowed := true }
def FnPartOfUptoSaid : Prop := fnPartOfUptoRow.holds Try.pinned (OpenSpec.upto fnPartOfSpec)

/-- 'laws.FnExactTableOk', WHERE WHAT IT READS IS OF BULK AT MOST 1048576: true; the input reads as it did. -/
def fnExactTableOkUptoRow : OpenClaim := { program := "ythiiniahkfjgmaa", sum := "93d9b9e6bf6b88dbf18babd62e5b077f46f9cb44bc066255b787f12e6ddbd740", func := "loop.example/ownsquares/laws.FnExactTableOk", spec := "fnExactTableOk", apart := false, narrowed := true }
def FnExactTableOkUptoSaid : Prop := fnExactTableOkUptoRow.holds Try.pinned (OpenSpec.upto fnExactTableOkSpec)

/-- 'laws.FnExactGroupedOk', WHERE WHAT IT READS IS OF BULK AT MOST 1048576: true; the input reads as it did. -/
def fnExactGroupedOkUptoRow : OpenClaim := { program := "ythiiniahkfjgmaa", sum := "93d9b9e6bf6b88dbf18babd62e5b077f46f9cb44bc066255b787f12e6ddbd740", func := "loop.example/ownsquares/laws.FnExactGroupedOk", spec := "fnExactGroupedOk", apart := false, narrowed := true }
def FnExactGroupedOkUptoSaid : Prop := fnExactGroupedOkUptoRow.holds Try.pinned (OpenSpec.upto fnExactGroupedOkSpec)

/-- 'laws.FnExactProductOf', WHERE WHAT IT READS IS OF BULK AT MOST 1048576: true; the input reads as it did. -/
def fnExactProductOfUptoRow : OpenClaim := { program := "ythiiniahkfjgmaa", sum := "93d9b9e6bf6b88dbf18babd62e5b077f46f9cb44bc066255b787f12e6ddbd740", func := "loop.example/ownsquares/laws.FnExactProductOf", spec := "fnExactProductOf", unfollowed := true, recurses := true, apart := false, narrowed := true }
def FnExactProductOfUptoSaid : Prop := fnExactProductOfUptoRow.holds Try.pinned (OpenSpec.upto fnExactProductOfSpec)

/-- 'laws.FnExactTurnedOf', WHERE WHAT IT READS IS OF BULK AT MOST 1048576: true; the input reads as it did. -/
def fnExactTurnedOfUptoRow : OpenClaim := { program := "ythiiniahkfjgmaa", sum := "93d9b9e6bf6b88dbf18babd62e5b077f46f9cb44bc066255b787f12e6ddbd740", func := "loop.example/ownsquares/laws.FnExactTurnedOf", spec := "fnExactTurnedOf", unfollowed := true, recurses := true, apart := false, narrowed := true }
def FnExactTurnedOfUptoSaid : Prop := fnExactTurnedOfUptoRow.holds Try.pinned (OpenSpec.upto fnExactTurnedOfSpec)

/-- 'laws.FnExactTimesOf', WHERE WHAT IT READS IS OF BULK AT MOST 1048576: true; the input reads as it did. -/
def fnExactTimesOfUptoRow : OpenClaim := { program := "ythiiniahkfjgmaa", sum := "93d9b9e6bf6b88dbf18babd62e5b077f46f9cb44bc066255b787f12e6ddbd740", func := "loop.example/ownsquares/laws.FnExactTimesOf", spec := "fnExactTimesOf", unfollowed := true, recurses := true, apart := false, narrowed := true }
def FnExactTimesOfUptoSaid : Prop := fnExactTimesOfUptoRow.holds Try.pinned (OpenSpec.upto fnExactTimesOfSpec)

/-- 'laws.FnExactMadeBy', WHERE WHAT IT READS IS OF BULK AT MOST 1048576: true; the input reads as it did. -/
def fnExactMadeByUptoRow : OpenClaim := { program := "ythiiniahkfjgmaa", sum := "93d9b9e6bf6b88dbf18babd62e5b077f46f9cb44bc066255b787f12e6ddbd740", func := "loop.example/ownsquares/laws.FnExactMadeBy", spec := "fnExactMadeBy", apart := false, narrowed := true }
def FnExactMadeByUptoSaid : Prop := fnExactMadeByUptoRow.holds Try.pinned (OpenSpec.upto fnExactMadeBySpec)

/-- 'laws.FnExactPartOf', WHERE WHAT IT READS IS OF BULK AT MOST 1048576: true; the input reads as it did. -/
def fnExactPartOfUptoRow : OpenClaim := { program := "ythiiniahkfjgmaa", sum := "93d9b9e6bf6b88dbf18babd62e5b077f46f9cb44bc066255b787f12e6ddbd740", func := "loop.example/ownsquares/laws.FnExactPartOf", spec := "fnExactPartOf", unfollowed := true, recurses := true, apart := false, narrowed := true }
def FnExactPartOfUptoSaid : Prop := fnExactPartOfUptoRow.holds Try.pinned (OpenSpec.upto fnExactPartOfSpec)

end Rows
end Go.Proofs.Ythiiniahkfjgmaa
