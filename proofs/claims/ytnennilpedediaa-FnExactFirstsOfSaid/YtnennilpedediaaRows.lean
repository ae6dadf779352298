/-
  No cell of these rows narrows 'for every input' (looked for: loops, veiled, ifaces, maps, wideKeys, modest, calm, conditions, laid).
  DERIVED. THE GIVEN ROWS OF THIS SEAT. 6 by the template 'for every input the law returns true; each argument reads behind the call as it read before'; 0 by the template 'total and deterministic' (their statements: YtnennilpedediaaTotals.lean).
  GIVEN WITH THE SEED: the statements are not yours to turn. If you find one false, say at which input.
  Laid BY PROGRAM, IN A SANDBOX (cutbox-rows.mjs): the forced cells as the released guide's own fill.sh prints them over the translation c33e355ac14e8c54… (all of the seat's roots in one cut). By AI agents, Wed Nov 11 2026. No macro, syntax, notation, axiom, sorry.
-/
import Derived.Test.YtnennilpedediaaChecked
import GoSem.Claim
import GoSem.ClaimJoined
import GoSem.ClaimMapViews
import Derived.JoinedTies
import Derived.KernelRfl
namespace Go.Proofs.Ytnennilpedediaa
/- THE CELL 'sum', in the pinned program and in every row, IS THE sha256 OF THE DUMP (.gsa) THAT YtnennilpedediaaProg.lean LOADS. Nothing in Lean hashes anything: it is a label: what it is worth is what the hold of that sum in a sandbox is worth. -/
noncomputable def Try.pinned : Pinned := { name := "ytnennilpedediaa", sum := "c33e355ac14e8c54f002e4be481d9690c426d1b09e1625f180528340dea248b6", checked := Try.checked }
namespace Rows
def none {H : Type} : Left H := { results := [], args := [] }

/-- 'laws.FnSignTable': WHATEVER THE INPUT: true; the input reads as it did. -/
def fnSignTableSpec : ChangeSpec := { name := "fnSignTable", fn := fun _ => fun
  | [d] => { results := [.lit (.bool true)], args := [d] }
  | _ => none }
def fnSignTableRow : OpenClaim := { program := "ytnennilpedediaa", sum := "c33e355ac14e8c54f002e4be481d9690c426d1b09e1625f180528340dea248b6", func := "loop.example/ownsquares/laws.FnSignTable", spec := "fnSignTable", unfollowed := true, recurses := true, apart := false }
def FnSignTableSaid : Prop := fnSignTableRow.holds Try.pinned (OpenSpec.ofChange fnSignTableSpec)

/-- ITS FALSE NEIGHBOUR: 'it returns false'. Refute it at one input. -/
def fnSignTableWrong : ChangeSpec := { name := "fnSignTable", fn := fun _ => fun
  | [d] => { results := [.lit (.bool false)], args := [d] }
  | _ => none }
def FnSignTableWrongFalsely : Prop := fnSignTableRow.holds Try.pinned (OpenSpec.ofChange fnSignTableWrong)

/-- 'laws.FnFirstsOf': WHATEVER THE INPUT: true; the input reads as it did. -/
def fnFirstsOfSpec : ChangeSpec := { name := "fnFirstsOf", fn := fun _ => fun
  | [d1, d2] => { results := [.lit (.bool true)], args := [d1, d2] }
  | _ => none }
def fnFirstsOfRow : OpenClaim := { program := "ytnennilpedediaa", sum := "c33e355ac14e8c54f002e4be481d9690c426d1b09e1625f180528340dea248b6", func := "loop.example/ownsquares/laws.FnFirstsOf", spec := "fnFirstsOf", unfollowed := true, recurses := true, apart := false }
def FnFirstsOfSaid : Prop := fnFirstsOfRow.holds Try.pinned (OpenSpec.ofChange fnFirstsOfSpec)

/-- ITS FALSE NEIGHBOUR: 'it returns false'. Refute it at one input. -/
def fnFirstsOfWrong : ChangeSpec := { name := "fnFirstsOf", fn := fun _ => fun
  | [d1, d2] => { results := [.lit (.bool false)], args := [d1, d2] }
  | _ => none }
def FnFirstsOfWrongFalsely : Prop := fnFirstsOfRow.holds Try.pinned (OpenSpec.ofChange fnFirstsOfWrong)

/-- 'laws.FnAllFirsts': WHATEVER THE INPUT: true; the input reads as it did. -/
def fnAllFirstsSpec : ChangeSpec := { name := "fnAllFirsts", fn := fun _ => fun
  | [d] => { results := [.lit (.bool true)], args := [d] }
  | _ => none }
def fnAllFirstsRow : OpenClaim := { program := "ytnennilpedediaa", sum := "c33e355ac14e8c54f002e4be481d9690c426d1b09e1625f180528340dea248b6", func := "loop.example/ownsquares/laws.FnAllFirsts", spec := "fnAllFirsts", unfollowed := true, recurses := true, apart := false }
def FnAllFirstsSaid : Prop := fnAllFirstsRow.holds Try.pinned (OpenSpec.ofChange fnAllFirstsSpec)

/-- ITS FALSE NEIGHBOUR: 'it returns false'. Refute it at one input. -/
def fnAllFirstsWrong : ChangeSpec := { name := "fnAllFirsts", fn := fun _ => fun
  | [d] => { results := [.lit (.bool false)], args := [d] }
  | _ => none }
def FnAllFirstsWrongFalsely : Prop := fnAllFirstsRow.holds Try.pinned (OpenSpec.ofChange fnAllFirstsWrong)

/-- 'laws.FnExactSignTable': WHATEVER THE INPUT: true; the input reads as it did. -/
def fnExactSignTableSpec : ChangeSpec := { name := "fnExactSignTable", fn := fun _ => fun
  | [d] => { results := [.lit (.bool true)], args := [d] }
  | _ => none }
def fnExactSignTableRow : OpenClaim := { program := "ytnennilpedediaa", sum := "c33e355ac14e8c54f002e4be481d9690c426d1b09e1625f180528340dea248b6", func := "loop.example/ownsquares/laws.FnExactSignTable", spec := "fnExactSignTable", unfollowed := true, recurses := true, apart := false }
def FnExactSignTableSaid : Prop := fnExactSignTableRow.holds Try.pinned (OpenSpec.ofChange fnExactSignTableSpec)

/-- ITS FALSE NEIGHBOUR: 'it returns false'. Refute it at one input. -/
def fnExactSignTableWrong : ChangeSpec := { name := "fnExactSignTable", fn := fun _ => fun
  | [d] => { results := [.lit (.bool false)], args := [d] }
  | _ => none }
def FnExactSignTableWrongFalsely : Prop := fnExactSignTableRow.holds Try.pinned (OpenSpec.ofChange fnExactSignTableWrong)

/-- 'laws.FnExactFirstsOf': WHATEVER THE INPUT: true; the input reads as it did. -/
def fnExactFirstsOfSpec : ChangeSpec := { name := "fnExactFirstsOf", fn := fun _ => fun
  | [d] => { results := [.lit (.bool true)], args := [d] }
  | _ => none }
def fnExactFirstsOfRow : OpenClaim := { program := "ytnennilpedediaa", sum := "c33e355ac14e8c54f002e4be481d9690c426d1b09e1625f180528340dea248b6", func := "loop.example/ownsquares/laws.FnExactFirstsOf", spec := "fnExactFirstsOf", apart := false }
def FnExactFirstsOfSaid : Prop := fnExactFirstsOfRow.holds Try.pinned (OpenSpec.ofChange fnExactFirstsOfSpec)

/-- ITS FALSE NEIGHBOUR: 'it returns false'. Refute it at one input. -/
def fnExactFirstsOfWrong : ChangeSpec := { name := "fnExactFirstsOf", fn := fun _ => fun
  | [d] => { results := [.lit (.bool false)], args := [d] }
  | _ => none }
def FnExactFirstsOfWrongFalsely : Prop := fnExactFirstsOfRow.holds Try.pinned (OpenSpec.ofChange fnExactFirstsOfWrong)

/-- 'laws.FnExactAllFirsts': WHATEVER THE INPUT: true; the input reads as it did. -/
def fnExactAllFirstsSpec : ChangeSpec := { name := "fnExactAllFirsts", fn := fun _ => fun
  | [d] => { results := [.lit (.bool true)], args := [d] }
  | _ => none }
def fnExactAllFirstsRow : OpenClaim := { program := "ytnennilpedediaa", sum := "c33e355ac14e8c54f002e4be481d9690c426d1b09e1625f180528340dea248b6", func := "loop.example/ownsquares/laws.FnExactAllFirsts", spec := "fnExactAllFirsts", unfollowed := true, recurses := true, apart := false }
def FnExactAllFirstsSaid : Prop := fnExactAllFirstsRow.holds Try.pinned (OpenSpec.ofChange fnExactAllFirstsSpec)

/-- ITS FALSE NEIGHBOUR: 'it returns false'. Refute it at one input. -/
def fnExactAllFirstsWrong : ChangeSpec := { name := "fnExactAllFirsts", fn := fun _ => fun
  | [d] => { results := [.lit (.bool false)], args := [d] }
  | _ => none }
def FnExactAllFirstsWrongFalsely : Prop := fnExactAllFirstsRow.holds Try.pinned (OpenSpec.ofChange fnExactAllFirstsWrong)

/- THE SECOND FORM. 'bulk': how many values and letters a reading holds, each counted each time it is reached (what is shared counts as often as it is met; a slice's spare places count too). A statement '..UptoSaid' is the law's where the arguments, and the package variables that the reading takes, are together of bulk at most 1048576: NARROWER than '..Said'. Prove '..Said' where nothing that the law and all that it calls make is longer than what came in: it says more and counts as full. Else prove '..UptoSaid'. A law counts once. -/
mutual
def uptoBulk {H : Type} : DataW H → Nat
  | .lit (.string bytes) => bytes.length + 1
  | .lit _ => 1
  | .nil => 1
  | .ptr d => uptoBulk d + 1
  | .slice elems spare => uptoBulkAll elems + uptoBulkAll spare + 1
  | .agg parts => uptoBulkAll parts + 1
  | .iface _ d => uptoBulk d + 1
  | .map entries => uptoBulkEntries entries + 1
  | .held _ => 1
def uptoBulkAll {H : Type} : List (DataW H) → Nat
  | [] => 0
  | d :: r => uptoBulk d + uptoBulkAll r
def uptoBulkEntries {H : Type} : List (Lit × DataW H) → Nat
  | [] => 0
  | x :: r => uptoBulkEntry x + uptoBulkEntries r
def uptoBulkEntry {H : Type} : Lit × DataW H → Nat
  | (.string bytes, d) => bytes.length + uptoBulk d + 1
  | (_, d) => uptoBulk d + 1
 end
def uptoSmall : (H : Type) → List (DataW H) → Bool := fun _ ds => decide (uptoBulkAll ds ≤ 1048576)
def OpenSpec.upto (s : _root_.Go.ChangeSpec) : _root_.Go.OpenSpec := { _root_.Go.OpenSpec.ofChange s with cond := some uptoSmall }

/-- 'laws.FnSignTable', WHERE WHAT IT READS IS OF BULK AT MOST 1048576: true; the input reads as it did. -/
def fnSignTableUptoRow : OpenClaim := { program := "ytnennilpedediaa", sum := "c33e355ac14e8c54f002e4be481d9690c426d1b09e1625f180528340dea248b6", func := "loop.example/ownsquares/laws.FnSignTable", spec := "fnSignTable", unfollowed := true, recurses := true, apart := false, narrowed := true }
def FnSignTableUptoSaid : Prop := fnSignTableUptoRow.holds Try.pinned (OpenSpec.upto fnSignTableSpec)

/-- 'laws.FnFirstsOf', WHERE WHAT IT READS IS OF BULK AT MOST 1048576: true; the input reads as it did. -/
def fnFirstsOfUptoRow : OpenClaim := { program := "ytnennilpedediaa", sum := "c33e355ac14e8c54f002e4be481d9690c426d1b09e1625f180528340dea248b6", func := "loop.example/ownsquares/laws.FnFirstsOf", spec := "fnFirstsOf", unfollowed := true, recurses := true, apart := false, narrowed := true }
def FnFirstsOfUptoSaid : Prop := fnFirstsOfUptoRow.holds Try.pinned (OpenSpec.upto fnFirstsOfSpec)

/-- 'laws.FnAllFirsts', WHERE WHAT IT READS IS OF BULK AT MOST 1048576: true; the input reads as it did. -/
def fnAllFirstsUptoRow : OpenClaim := { program := "ytnennilpedediaa", sum := "c33e355ac14e8c54f002e4be481d9690c426d1b09e1625f180528340dea248b6", func := "loop.example/ownsquares/laws.FnAllFirsts", spec := "fnAllFirsts", unfollowed := true, recurses := true, apart := false, narrowed := true }
def FnAllFirstsUptoSaid : Prop := fnAllFirstsUptoRow.holds Try.pinned (OpenSpec.upto fnAllFirstsSpec)

/-- 'laws.FnExactSignTable', WHERE WHAT IT READS IS OF BULK AT MOST 1048576: true; the input reads as it did. -/
def fnExactSignTableUptoRow : OpenClaim := { program := "ytnennilpedediaa", sum := "c33e355ac14e8c54f002e4be481d9690c426d1b09e1625f180528340dea248b6", func := "loop.example/ownsquares/laws.FnExactSignTable", spec := "fnExactSignTable", unfollowed := true, recurses := true, apart := false, narrowed := true }
def FnExactSignTableUptoSaid : Prop := fnExactSignTableUptoRow.holds Try.pinned (OpenSpec.upto fnExactSignTableSpec)

/-- 'laws.FnExactFirstsOf', WHERE WHAT IT READS IS OF BULK AT MOST 1048576: true; the input reads as it did. -/
def fnExactFirstsOfUptoRow : OpenClaim := { program := "ytnennilpedediaa", sum := "c33e355ac14e8c54f002e4be481d9690c426d1b09e1625f180528340dea248b6", func := "loop.example/ownsquares/laws.FnExactFirstsOf", spec := "fnExactFirstsOf", apart := false, narrowed := true }
def FnExactFirstsOfUptoSaid : Prop := fnExactFirstsOfUptoRow.holds Try.pinned (OpenSpec.upto fnExactFirstsOfSpec)

/-- 'laws.FnExactAllFirsts', WHERE WHAT IT READS IS OF BULK AT MOST 1048576: true; the input reads as it did. -/
def fnExactAllFirstsUptoRow : OpenClaim := { program := "ytnennilpedediaa", sum := "c33e355ac14e8c54f002e4be481d9690c426d1b09e1625f180528340dea248b6", func := "loop.example/ownsquares/laws.FnExactAllFirsts", spec := "fnExactAllFirsts", unfollowed := true, recurses := true, apart := false, narrowed := true }
def FnExactAllFirstsUptoSaid : Prop := fnExactAllFirstsUptoRow.holds Try.pinned (OpenSpec.upto fnExactAllFirstsSpec)

end Rows
end Go.Proofs.Ytnennilpedediaa
