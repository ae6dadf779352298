/-
  No cell of these rows narrows 'for every input' (looked for: loops, veiled, ifaces, maps, wideKeys, modest, calm, conditions, laid).
  DERIVED. THE GIVEN ROWS OF THIS SEAT. 10 by the template 'for every input the law returns true; each argument reads behind the call as it read before'; 0 by the template 'total and deterministic' (their statements: YthllbekoidogpaaTotals.lean).
  GIVEN WITH THE SEED: the statements are not yours to turn. If you find one false, say at which input.
  Laid BY PROGRAM, IN A SANDBOX (cutbox-rows.mjs): the forced cells as the released guide's own fill.sh prints them over the translation 2d9620fb17366382… (all of the seat's roots in one cut). By AI agents, Wed Nov 11 2026. No macro, syntax, notation, axiom, sorry.
-/
import Derived.Test.YthllbekoidogpaaChecked
import GoSem.Claim
import GoSem.ClaimJoined
import GoSem.ClaimMapViews
import Derived.JoinedTies
import Derived.KernelRfl
namespace Go.Proofs.Ythllbekoidogpaa
/- THE CELL 'sum', in the pinned program and in every row, IS THE sha256 OF THE DUMP (.gsa) THAT YthllbekoidogpaaProg.lean LOADS. Nothing in Lean hashes anything: it is a label: what it is worth is what the hold of that sum in a sandbox is worth. -/
noncomputable def Try.pinned : Pinned := { name := "ythllbekoidogpaa", sum := "2d9620fb1736638206fb9b6f9519f0365bd7d5b345b2c26e6538b0284a8d9188", checked := Try.checked }
namespace Rows
def none {H : Type} : Left H := { results := [], args := [] }

/-- 'laws.FnHoldsIn': WHATEVER THE INPUT: true; the input reads as it did. -/
def fnHoldsInSpec : ChangeSpec := { name := "fnHoldsIn", fn := fun _ => fun
  | [d1, d2] => { results := [.lit (.bool true)], args := [d1, d2] }
  | _ => none }
def fnHoldsInRow : OpenClaim := { program := "ythllbekoidogpaa", sum := "2d9620fb1736638206fb9b6f9519f0365bd7d5b345b2c26e6538b0284a8d9188", func := "loop.example/ownsquares/laws.FnHoldsIn", spec := "fnHoldsIn", unfollowed := true, recurses := true, plainKeys := false, apart := false }
def FnHoldsInSaid : Prop := fnHoldsInRow.holds Try.pinned (OpenSpec.ofChange fnHoldsInSpec)

/-- ITS FALSE NEIGHBOUR: 'it returns false'. Refute it at one input. -/
def fnHoldsInWrong : ChangeSpec := { name := "fnHoldsIn", fn := fun _ => fun
  | [d1, d2] => { results := [.lit (.bool false)], args := [d1, d2] }
  | _ => none }
def FnHoldsInWrongFalsely : Prop := fnHoldsInRow.holds Try.pinned (OpenSpec.ofChange fnHoldsInWrong)

/-- 'laws.FnIdentityAt': WHATEVER THE INPUT: true; the input reads as it did. -/
def fnIdentityAtSpec : ChangeSpec := { name := "fnIdentityAt", fn := fun _ => fun
  | [d] => { results := [.lit (.bool true)], args := [d] }
  | _ => none }
def fnIdentityAtRow : OpenClaim := { program := "ythllbekoidogpaa", sum := "2d9620fb1736638206fb9b6f9519f0365bd7d5b345b2c26e6538b0284a8d9188", func := "loop.example/ownsquares/laws.FnIdentityAt", spec := "fnIdentityAt", unfollowed := true, recurses := true, plainKeys := false, apart := false }
def FnIdentityAtSaid : Prop := fnIdentityAtRow.holds Try.pinned (OpenSpec.ofChange fnIdentityAtSpec)

/-- ITS FALSE NEIGHBOUR: 'it returns false'. Refute it at one input. -/
def fnIdentityAtWrong : ChangeSpec := { name := "fnIdentityAt", fn := fun _ => fun
  | [d] => { results := [.lit (.bool false)], args := [d] }
  | _ => none }
def FnIdentityAtWrongFalsely : Prop := fnIdentityAtRow.holds Try.pinned (OpenSpec.ofChange fnIdentityAtWrong)

/-- 'laws.FnKindOf': WHATEVER THE INPUT: true; the input reads as it did. -/
def fnKindOfSpec : ChangeSpec := { name := "fnKindOf", fn := fun _ => fun
  | [d] => { results := [.lit (.bool true)], args := [d] }
  | _ => none }
def fnKindOfRow : OpenClaim := { program := "ythllbekoidogpaa", sum := "2d9620fb1736638206fb9b6f9519f0365bd7d5b345b2c26e6538b0284a8d9188", func := "loop.example/ownsquares/laws.FnKindOf", spec := "fnKindOf", unfollowed := true, recurses := true, plainKeys := false, apart := false }
def FnKindOfSaid : Prop := fnKindOfRow.holds Try.pinned (OpenSpec.ofChange fnKindOfSpec)

/-- ITS FALSE NEIGHBOUR: 'it returns false'. Refute it at one input. -/
def fnKindOfWrong : ChangeSpec := { name := "fnKindOf", fn := fun _ => fun
  | [d] => { results := [.lit (.bool false)], args := [d] }
  | _ => none }
def FnKindOfWrongFalsely : Prop := fnKindOfRow.holds Try.pinned (OpenSpec.ofChange fnKindOfWrong)

/-- 'laws.FnTurnedKind': WHATEVER THE INPUT: true; the input reads as it did. -/
def fnTurnedKindSpec : ChangeSpec := { name := "fnTurnedKind", fn := fun _ => fun
  | [d1, d2] => { results := [.lit (.bool true)], args := [d1, d2] }
  | _ => none }
def fnTurnedKindRow : OpenClaim := { program := "ythllbekoidogpaa", sum := "2d9620fb1736638206fb9b6f9519f0365bd7d5b345b2c26e6538b0284a8d9188", func := "loop.example/ownsquares/laws.FnTurnedKind", spec := "fnTurnedKind", unfollowed := true, recurses := true, plainKeys := false, apart := false }
def FnTurnedKindSaid : Prop := fnTurnedKindRow.holds Try.pinned (OpenSpec.ofChange fnTurnedKindSpec)

/-- ITS FALSE NEIGHBOUR: 'it returns false'. Refute it at one input. -/
def fnTurnedKindWrong : ChangeSpec := { name := "fnTurnedKind", fn := fun _ => fun
  | [d1, d2] => { results := [.lit (.bool false)], args := [d1, d2] }
  | _ => none }
def FnTurnedKindWrongFalsely : Prop := fnTurnedKindRow.holds Try.pinned (OpenSpec.ofChange fnTurnedKindWrong)

/-- 'laws.FnAlwaysOk': WHATEVER THE INPUT: true; the input reads as it did. -/
def fnAlwaysOkSpec : ChangeSpec := { name := "fnAlwaysOk", fn := fun _ => fun
  | [d] => { results := [.lit (.bool true)], args := [d] }
  | _ => none }
def fnAlwaysOkRow : OpenClaim := { program := "ythllbekoidogpaa", sum := "2d9620fb1736638206fb9b6f9519f0365bd7d5b345b2c26e6538b0284a8d9188", func := "loop.example/ownsquares/laws.FnAlwaysOk", spec := "fnAlwaysOk", unfollowed := true, recurses := true, plainKeys := false, apart := false }
def FnAlwaysOkSaid : Prop := fnAlwaysOkRow.holds Try.pinned (OpenSpec.ofChange fnAlwaysOkSpec)

/-- ITS FALSE NEIGHBOUR: 'it returns false'. Refute it at one input. -/
def fnAlwaysOkWrong : ChangeSpec := { name := "fnAlwaysOk", fn := fun _ => fun
  | [d] => { results := [.lit (.bool false)], args := [d] }
  | _ => none }
def FnAlwaysOkWrongFalsely : Prop := fnAlwaysOkRow.holds Try.pinned (OpenSpec.ofChange fnAlwaysOkWrong)

/-- 'laws.FnExactHoldsIn': WHATEVER THE INPUT: true; the input reads as it did. -/
def fnExactHoldsInSpec : ChangeSpec := { name := "fnExactHoldsIn", fn := fun _ => fun
  | [d1, d2, d3] => { results := [.lit (.bool true)], args := [d1, d2, d3] }
  | _ => none }
def fnExactHoldsInRow : OpenClaim := { program := "ythllbekoidogpaa", sum := "2d9620fb1736638206fb9b6f9519f0365bd7d5b345b2c26e6538b0284a8d9188", func := "loop.example/ownsquares/laws.FnExactHoldsIn", spec := "fnExactHoldsIn", unfollowed := true, recurses := true, plainKeys := false, apart := false }
def FnExactHoldsInSaid : Prop := fnExactHoldsInRow.holds Try.pinned (OpenSpec.ofChange fnExactHoldsInSpec)

/-- ITS FALSE NEIGHBOUR: 'it returns false'. Refute it at one input. -/
def fnExactHoldsInWrong : ChangeSpec := { name := "fnExactHoldsIn", fn := fun _ => fun
  | [d1, d2, d3] => { results := [.lit (.bool false)], args := [d1, d2, d3] }
  | _ => none }
def FnExactHoldsInWrongFalsely : Prop := fnExactHoldsInRow.holds Try.pinned (OpenSpec.ofChange fnExactHoldsInWrong)

/-- 'laws.FnExactIdentityAt': WHATEVER THE INPUT: true; the input reads as it did. -/
def fnExactIdentityAtSpec : ChangeSpec := { name := "fnExactIdentityAt", fn := fun _ => fun
  | [d] => { results := [.lit (.bool true)], args := [d] }
  | _ => none }
def fnExactIdentityAtRow : OpenClaim := { program := "ythllbekoidogpaa", sum := "2d9620fb1736638206fb9b6f9519f0365bd7d5b345b2c26e6538b0284a8d9188", func := "loop.example/ownsquares/laws.FnExactIdentityAt", spec := "fnExactIdentityAt", unfollowed := true, recurses := true, plainKeys := false, apart := false }
def FnExactIdentityAtSaid : Prop := fnExactIdentityAtRow.holds Try.pinned (OpenSpec.ofChange fnExactIdentityAtSpec)

/-- ITS FALSE NEIGHBOUR: 'it returns false'. Refute it at one input. -/
def fnExactIdentityAtWrong : ChangeSpec := { name := "fnExactIdentityAt", fn := fun _ => fun
  | [d] => { results := [.lit (.bool false)], args := [d] }
  | _ => none }
def FnExactIdentityAtWrongFalsely : Prop := fnExactIdentityAtRow.holds Try.pinned (OpenSpec.ofChange fnExactIdentityAtWrong)

/-- 'laws.FnExactKindOf': WHATEVER THE INPUT: true; the input reads as it did. -/
def fnExactKindOfSpec : ChangeSpec := { name := "fnExactKindOf", fn := fun _ => fun
  | [d] => { results := [.lit (.bool true)], args := [d] }
  | _ => none }
def fnExactKindOfRow : OpenClaim := { program := "ythllbekoidogpaa", sum := "2d9620fb1736638206fb9b6f9519f0365bd7d5b345b2c26e6538b0284a8d9188", func := "loop.example/ownsquares/laws.FnExactKindOf", spec := "fnExactKindOf", unfollowed := true, recurses := true, plainKeys := false, apart := false }
def FnExactKindOfSaid : Prop := fnExactKindOfRow.holds Try.pinned (OpenSpec.ofChange fnExactKindOfSpec)

/-- ITS FALSE NEIGHBOUR: 'it returns false'. Refute it at one input. -/
def fnExactKindOfWrong : ChangeSpec := { name := "fnExactKindOf", fn := fun _ => fun
  | [d] => { results := [.lit (.bool false)], args := [d] }
  | _ => none }
def FnExactKindOfWrongFalsely : Prop := fnExactKindOfRow.holds Try.pinned (OpenSpec.ofChange fnExactKindOfWrong)

/-- 'laws.FnExactTurnedKind': WHATEVER THE INPUT: true; the input reads as it did. -/
def fnExactTurnedKindSpec : ChangeSpec := { name := "fnExactTurnedKind", fn := fun _ => fun
  | [d] => { results := [.lit (.bool true)], args := [d] }
  | _ => none }
def fnExactTurnedKindRow : OpenClaim := { program := "ythllbekoidogpaa", sum := "2d9620fb1736638206fb9b6f9519f0365bd7d5b345b2c26e6538b0284a8d9188", func := "loop.example/ownsquares/laws.FnExactTurnedKind", spec := "fnExactTurnedKind", plainKeys := false, apart := false }
def FnExactTurnedKindSaid : Prop := fnExactTurnedKindRow.holds Try.pinned (OpenSpec.ofChange fnExactTurnedKindSpec)

/-- ITS FALSE NEIGHBOUR: 'it returns false'. Refute it at one input. -/
def fnExactTurnedKindWrong : ChangeSpec := { name := "fnExactTurnedKind", fn := fun _ => fun
  | [d] => { results := [.lit (.bool false)], args := [d] }
  | _ => none }
def FnExactTurnedKindWrongFalsely : Prop := fnExactTurnedKindRow.holds Try.pinned (OpenSpec.ofChange fnExactTurnedKindWrong)

/-- 'laws.FnExactAlwaysOk': WHATEVER THE INPUT: true; the input reads as it did. -/
def fnExactAlwaysOkSpec : ChangeSpec := { name := "fnExactAlwaysOk", fn := fun _ => fun
  | [d1, d2] => { results := [.lit (.bool true)], args := [d1, d2] }
  | _ => none }
def fnExactAlwaysOkRow : OpenClaim := { program := "ythllbekoidogpaa", sum := "2d9620fb1736638206fb9b6f9519f0365bd7d5b345b2c26e6538b0284a8d9188", func := "loop.example/ownsquares/laws.FnExactAlwaysOk", spec := "fnExactAlwaysOk", recurses := true, plainKeys := false, apart := false }
def FnExactAlwaysOkSaid : Prop := fnExactAlwaysOkRow.holds Try.pinned (OpenSpec.ofChange fnExactAlwaysOkSpec)

/-- ITS FALSE NEIGHBOUR: 'it returns false'. Refute it at one input. -/
def fnExactAlwaysOkWrong : ChangeSpec := { name := "fnExactAlwaysOk", fn := fun _ => fun
  | [d1, d2] => { results := [.lit (.bool false)], args := [d1, d2] }
  | _ => none }
def FnExactAlwaysOkWrongFalsely : Prop := fnExactAlwaysOkRow.holds Try.pinned (OpenSpec.ofChange fnExactAlwaysOkWrong)

/- THE SECOND FORM. 'bulk': how many values and letters a reading holds, each counted each time it is reached (what is shared counts as often as it is met; a slice's spare places count too). A statement '..UptoSaid' is the law's where the arguments, and the package variables that the reading takes, are together of bulk at most 1048576: NARROWER than '..Said'. Prove '..Said' where nothing that the law and all that it calls make is longer than what came in: it says more and counts as full. Else prove '..UptoSaid'. A law counts once. -/
mutual
def uptoBulk {H : Type} : DataW H → Nat
  | .lit (.string bytes) => bytes.length + 1
  | .lit _ => 1
  | .nil => 1
  | .ptr d => uptoBulk d + 1
  | .slice elems spare => uptoBulkAll elems + uptoBulkAll spare + 1
  | .agg parts => uptoBulkAll parts + 1
  | .iface _ d => uptoBulk d + 1
  | .map entries => uptoBulkEntries entries + 1
  | .held _ => 1
def uptoBulkAll {H : Type} : List (DataW H) → Nat
  | [] => 0
  | d :: r => uptoBulk d + uptoBulkAll r
def uptoBulkEntries {H : Type} : List (Lit × DataW H) → Nat
  | [] => 0
  | x :: r => uptoBulkEntry x + uptoBulkEntries r
def uptoBulkEntry {H : Type} : Lit × DataW H → Nat
  | (.string bytes, d) => bytes.length + uptoBulk d + 1
  | (_, d) => uptoBulk d + 1
 end
def uptoSmall : (H : Type) → List (DataW H) → Bool := fun _ ds => decide (uptoBulkAll ds ≤ 1048576)
def OpenSpec.upto (s : _root_.Go.ChangeSpec) : _root_.Go.OpenSpec := { _root_.Go.OpenSpec.ofChange s with cond := some uptoSmall }

/-- 'laws.FnHoldsIn', WHERE WHAT IT READS IS OF BULK AT MOST 1048576: true; the input reads as it did. -/
def fnHoldsInUptoRow : OpenClaim := { program := "ythllbekoidogpaa", sum := "2d9620fb1736638206fb9b6f9519f0365bd7d5b345b2c26e6538b0284a8d9188", func := "loop.example/ownsquares/laws.FnHoldsIn", spec := "fnHoldsIn", unfollowed := true, recurses := true, plainKeys := false, apart := false, narrowed := true }
def FnHoldsInUptoSaid : Prop := fnHoldsInUptoRow.holds Try.pinned (OpenSpec.upto fnHoldsInSpec)

/-- 'laws.FnIdentityAt', WHERE WHAT IT READS IS OF BULK AT MOST 1048576: true; the input reads as it did. -/
def fnIdentityAtUptoRow : OpenClaim := { program := "ythllbekoidogpaa", sum := "2d9620fb1736638206fb9b6f9519f0365bd7d5b345b2c26e6538b0284a8d9188", func := "loop.example/ownsquares/laws.FnIdentityAt", spec := "fnIdentityAt", unfollowed := true, recurses := true, plainKeys := false, apart := false, narrowed := true }
def FnIdentityAtUptoSaid : Prop := fnIdentityAtUptoRow.holds Try.pinned (OpenSpec.upto fnIdentityAtSpec)

/-- 'laws.FnKindOf', WHERE WHAT IT READS IS OF BULK AT MOST 1048576: true; the input reads as it did. -/
def fnKindOfUptoRow : OpenClaim := { program := "ythllbekoidogpaa", sum := "2d9620fb1736638206fb9b6f9519f0365bd7d5b345b2c26e6538b0284a8d9188", func := "loop.example/ownsquares/laws.FnKindOf", spec := "fnKindOf", unfollowed := true, recurses := true, plainKeys := false, apart := false, narrowed := true }
def FnKindOfUptoSaid : Prop := fnKindOfUptoRow.holds Try.pinned (OpenSpec.upto fnKindOfSpec)

/-- 'laws.FnTurnedKind', WHERE WHAT IT READS IS OF BULK AT MOST 1048576: true; the input reads as it did. -/
def fnTurnedKindUptoRow : OpenClaim := { program := "ythllbekoidogpaa", sum := "2d9620fb1736638206fb9b6f9519f0365bd7d5b345b2c26e6538b0284a8d9188", func := "loop.example/ownsquares/laws.FnTurnedKind", spec := "fnTurnedKind", unfollowed := true, recurses := true, plainKeys := false, apart := false, narrowed := true }
def FnTurnedKindUptoSaid : Prop := fnTurnedKindUptoRow.holds Try.pinned (OpenSpec.upto fnTurnedKindSpec)

/-- 'laws.FnAlwaysOk', WHERE WHAT IT READS IS OF BULK AT MOST 1048576: true; the input reads as it did. -/
def fnAlwaysOkUptoRow : OpenClaim := { program := "ythllbekoidogpaa", sum := "2d9620fb1736638206fb9b6f9519f0365bd7d5b345b2c26e6538b0284a8d9188", func := "loop.example/ownsquares/laws.FnAlwaysOk", spec := "fnAlwaysOk", unfollowed := true, recurses := true, plainKeys := false, apart := false, narrowed := true }
def FnAlwaysOkUptoSaid : Prop := fnAlwaysOkUptoRow.holds Try.pinned (OpenSpec.upto fnAlwaysOkSpec)

/-- 'laws.FnExactHoldsIn', WHERE WHAT IT READS IS OF BULK AT MOST 1048576: true; the input reads as it did. -/
def fnExactHoldsInUptoRow : OpenClaim := { program := "ythllbekoidogpaa", sum := "2d9620fb1736638206fb9b6f9519f0365bd7d5b345b2c26e6538b0284a8d9188", func := "loop.example/ownsquares/laws.FnExactHoldsIn", spec := "fnExactHoldsIn", unfollowed := true, recurses := true, plainKeys := false, apart := false, narrowed := true }
def FnExactHoldsInUptoSaid : Prop := fnExactHoldsInUptoRow.holds Try.pinned (OpenSpec.upto fnExactHoldsInSpec)

/-- 'laws.FnExactIdentityAt', WHERE WHAT IT READS IS OF BULK AT MOST 1048576: true; the input reads as it did. -/
def fnExactIdentityAtUptoRow : OpenClaim := { program := "ythllbekoidogpaa", sum := "2d9620fb1736638206fb9b6f9519f0365bd7d5b345b2c26e6538b0284a8d9188", func := "loop.example/ownsquares/laws.FnExactIdentityAt", spec := "fnExactIdentityAt", unfollowed := true, recurses := true, plainKeys := false, apart := false, narrowed := true }
def FnExactIdentityAtUptoSaid : Prop := fnExactIdentityAtUptoRow.holds Try.pinned (OpenSpec.upto fnExactIdentityAtSpec)

/-- 'laws.FnExactKindOf', WHERE WHAT IT READS IS OF BULK AT MOST 1048576: true; the input reads as it did. -/
def fnExactKindOfUptoRow : OpenClaim := { program := "ythllbekoidogpaa", sum := "2d9620fb1736638206fb9b6f9519f0365bd7d5b345b2c26e6538b0284a8d9188", func := "loop.example/ownsquares/laws.FnExactKindOf", spec := "fnExactKindOf", unfollowed := true, recurses := true, plainKeys := false, apart := false, narrowed := true }
def FnExactKindOfUptoSaid : Prop := fnExactKindOfUptoRow.holds Try.pinned (OpenSpec.upto fnExactKindOfSpec)

/-- 'laws.FnExactTurnedKind', WHERE WHAT IT READS IS OF BULK AT MOST 1048576: true; the input reads as it did. -/
def fnExactTurnedKindUptoRow : OpenClaim := { program := "ythllbekoidogpaa", sum := "2d9620fb1736638206fb9b6f9519f0365bd7d5b345b2c26e6538b0284a8d9188", func := "loop.example/ownsquares/laws.FnExactTurnedKind", spec := "fnExactTurnedKind", plainKeys := false, apart := false, narrowed := true }
def FnExactTurnedKindUptoSaid : Prop := fnExactTurnedKindUptoRow.holds Try.pinned (OpenSpec.upto fnExactTurnedKindSpec)

/-- 'laws.FnExactAlwaysOk', WHERE WHAT IT READS IS OF BULK AT MOST 1048576: true; the input reads as it did. -/
def fnExactAlwaysOkUptoRow : OpenClaim := { program := "ythllbekoidogpaa", sum := "2d9620fb1736638206fb9b6f9519f0365bd7d5b345b2c26e6538b0284a8d9188", func := "loop.example/ownsquares/laws.FnExactAlwaysOk", spec := "fnExactAlwaysOk", recurses := true, plainKeys := false, apart := false, narrowed := true }
def FnExactAlwaysOkUptoSaid : Prop := fnExactAlwaysOkUptoRow.holds Try.pinned (OpenSpec.upto fnExactAlwaysOkSpec)

end Rows
end Go.Proofs.Ythllbekoidogpaa
