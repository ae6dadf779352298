/-
  No cell of these rows narrows 'for every input' (looked for: loops, veiled, ifaces, maps, wideKeys, modest, calm, conditions, laid).
  DERIVED. THE GIVEN ROWS OF THIS SEAT. 10 by the template 'for every input the law returns true; each argument reads behind the call as it read before'; 0 by the template 'total and deterministic' (their statements: YtnchipcpeeofaaaTotals.lean).
  GIVEN WITH THE SEED: the statements are not yours to turn. If you find one false, say at which input.
  Laid BY PROGRAM, IN A SANDBOX (cutbox-rows.mjs): the forced cells as the released guide's own fill.sh prints them over the translation e9b80d9c4a7dfd99… (all of the seat's roots in one cut). By AI agents, Wed Nov 11 2026. No macro, syntax, notation, axiom, sorry.
-/
import Derived.Test.YtnchipcpeeofaaaChecked
import GoSem.Claim
import GoSem.ClaimJoined
import GoSem.ClaimMapViews
import Derived.JoinedTies
import Derived.KernelRfl
namespace Go.Proofs.Ytnchipcpeeofaaa
/- THE CELL 'sum', in the pinned program and in every row, IS THE sha256 OF THE DUMP (.gsa) THAT YtnchipcpeeofaaaProg.lean LOADS. Nothing in Lean hashes anything: it is a label: what it is worth is what the hold of that sum in a sandbox is worth. -/
noncomputable def Try.pinned : Pinned := { name := "ytnchipcpeeofaaa", sum := "e9b80d9c4a7dfd99a15b47a0c2fdd7c73bd4d50cb8c0a8d8d1dcc59d0dbcfcd7", checked := Try.checked }
namespace Rows
def none {H : Type} : Left H := { results := [], args := [] }

/-- 'laws.FnMapOk': WHATEVER THE INPUT: true; the input reads as it did. -/
def fnMapOkSpec : ChangeSpec := { name := "fnMapOk", fn := fun _ => fun
  | [d] => { results := [.lit (.bool true)], args := [d] }
  | _ => none }
def fnMapOkRow : OpenClaim := { program := "ytnchipcpeeofaaa", sum := "e9b80d9c4a7dfd99a15b47a0c2fdd7c73bd4d50cb8c0a8d8d1dcc59d0dbcfcd7", func := "loop.example/ownsquares/laws.FnMapOk", spec := "fnMapOk", apart := false }
def FnMapOkSaid : Prop := fnMapOkRow.holds Try.pinned (OpenSpec.ofChange fnMapOkSpec)

/-- ITS FALSE NEIGHBOUR: 'it returns false'. Refute it at one input. -/
def fnMapOkWrong : ChangeSpec := { name := "fnMapOk", fn := fun _ => fun
  | [d] => { results := [.lit (.bool false)], args := [d] }
  | _ => none }
def FnMapOkWrongFalsely : Prop := fnMapOkRow.holds Try.pinned (OpenSpec.ofChange fnMapOkWrong)

/-- 'laws.FnKeepsOk': WHATEVER THE INPUT: true; the input reads as it did. -/
def fnKeepsOkSpec : ChangeSpec := { name := "fnKeepsOk", fn := fun _ => fun
  | [d] => { results := [.lit (.bool true)], args := [d] }
  | _ => none }
def fnKeepsOkRow : OpenClaim := { program := "ytnchipcpeeofaaa", sum := "e9b80d9c4a7dfd99a15b47a0c2fdd7c73bd4d50cb8c0a8d8d1dcc59d0dbcfcd7", func := "loop.example/ownsquares/laws.FnKeepsOk", spec := "fnKeepsOk", apart := false }
def FnKeepsOkSaid : Prop := fnKeepsOkRow.holds Try.pinned (OpenSpec.ofChange fnKeepsOkSpec)

/-- ITS FALSE NEIGHBOUR: 'it returns false'. Refute it at one input. -/
def fnKeepsOkWrong : ChangeSpec := { name := "fnKeepsOk", fn := fun _ => fun
  | [d] => { results := [.lit (.bool false)], args := [d] }
  | _ => none }
def FnKeepsOkWrongFalsely : Prop := fnKeepsOkRow.holds Try.pinned (OpenSpec.ofChange fnKeepsOkWrong)

/-- 'laws.FnReachedBy': WHATEVER THE INPUT: true; the input reads as it did. -/
def fnReachedBySpec : ChangeSpec := { name := "fnReachedBy", fn := fun _ => fun
  | [d] => { results := [.lit (.bool true)], args := [d] }
  | _ => none }
def fnReachedByRow : OpenClaim := { program := "ytnchipcpeeofaaa", sum := "e9b80d9c4a7dfd99a15b47a0c2fdd7c73bd4d50cb8c0a8d8d1dcc59d0dbcfcd7", func := "loop.example/ownsquares/laws.FnReachedBy", spec := "fnReachedBy", unfollowed := true, recurses := true, apart := false }
def FnReachedBySaid : Prop := fnReachedByRow.holds Try.pinned (OpenSpec.ofChange fnReachedBySpec)

/-- ITS FALSE NEIGHBOUR: 'it returns false'. Refute it at one input. -/
def fnReachedByWrong : ChangeSpec := { name := "fnReachedBy", fn := fun _ => fun
  | [d] => { results := [.lit (.bool false)], args := [d] }
  | _ => none }
def FnReachedByWrongFalsely : Prop := fnReachedByRow.holds Try.pinned (OpenSpec.ofChange fnReachedByWrong)

/-- 'laws.FnCountKeeping': WHATEVER THE INPUT: true; the input reads as it did. -/
def fnCountKeepingSpec : ChangeSpec := { name := "fnCountKeeping", fn := fun _ => fun
  | [d] => { results := [.lit (.bool true)], args := [d] }
  | _ => none }
def fnCountKeepingRow : OpenClaim := { program := "ytnchipcpeeofaaa", sum := "e9b80d9c4a7dfd99a15b47a0c2fdd7c73bd4d50cb8c0a8d8d1dcc59d0dbcfcd7", func := "loop.example/ownsquares/laws.FnCountKeeping", spec := "fnCountKeeping", unfollowed := true, recurses := true, apart := false }
def FnCountKeepingSaid : Prop := fnCountKeepingRow.holds Try.pinned (OpenSpec.ofChange fnCountKeepingSpec)

/-- ITS FALSE NEIGHBOUR: 'it returns false'. Refute it at one input. -/
def fnCountKeepingWrong : ChangeSpec := { name := "fnCountKeeping", fn := fun _ => fun
  | [d] => { results := [.lit (.bool false)], args := [d] }
  | _ => none }
def FnCountKeepingWrongFalsely : Prop := fnCountKeepingRow.holds Try.pinned (OpenSpec.ofChange fnCountKeepingWrong)

/-- 'laws.FnPushingOf': WHATEVER THE INPUT: true; the input reads as it did. -/
def fnPushingOfSpec : ChangeSpec := { name := "fnPushingOf", fn := fun _ => fun
  | [d] => { results := [.lit (.bool true)], args := [d] }
  | _ => none }
def fnPushingOfRow : OpenClaim := { program := "ytnchipcpeeofaaa", sum := "e9b80d9c4a7dfd99a15b47a0c2fdd7c73bd4d50cb8c0a8d8d1dcc59d0dbcfcd7", func := "loop.example/ownsquares/laws.FnPushingOf", spec := "fnPushingOf", unfollowed := true, recurses := true, apart := false }
def FnPushingOfSaid : Prop := fnPushingOfRow.holds Try.pinned (OpenSpec.ofChange fnPushingOfSpec)

/-- ITS FALSE NEIGHBOUR: 'it returns false'. Refute it at one input. -/
def fnPushingOfWrong : ChangeSpec := { name := "fnPushingOf", fn := fun _ => fun
  | [d] => { results := [.lit (.bool false)], args := [d] }
  | _ => none }
def FnPushingOfWrongFalsely : Prop := fnPushingOfRow.holds Try.pinned (OpenSpec.ofChange fnPushingOfWrong)

/-- 'laws.FnExactMapOk': WHATEVER THE INPUT: true; the input reads as it did. -/
def fnExactMapOkSpec : ChangeSpec := { name := "fnExactMapOk", fn := fun _ => fun
  | [d1, d2, d3] => { results := [.lit (.bool true)], args := [d1, d2, d3] }
  | _ => none }
def fnExactMapOkRow : OpenClaim := { program := "ytnchipcpeeofaaa", sum := "e9b80d9c4a7dfd99a15b47a0c2fdd7c73bd4d50cb8c0a8d8d1dcc59d0dbcfcd7", func := "loop.example/ownsquares/laws.FnExactMapOk", spec := "fnExactMapOk", apart := false }
def FnExactMapOkSaid : Prop := fnExactMapOkRow.holds Try.pinned (OpenSpec.ofChange fnExactMapOkSpec)

/-- ITS FALSE NEIGHBOUR: 'it returns false'. Refute it at one input. -/
def fnExactMapOkWrong : ChangeSpec := { name := "fnExactMapOk", fn := fun _ => fun
  | [d1, d2, d3] => { results := [.lit (.bool false)], args := [d1, d2, d3] }
  | _ => none }
def FnExactMapOkWrongFalsely : Prop := fnExactMapOkRow.holds Try.pinned (OpenSpec.ofChange fnExactMapOkWrong)

/-- 'laws.FnExactKeepsOk': WHATEVER THE INPUT: true; the input reads as it did. -/
def fnExactKeepsOkSpec : ChangeSpec := { name := "fnExactKeepsOk", fn := fun _ => fun
  | [d1, d2, d3] => { results := [.lit (.bool true)], args := [d1, d2, d3] }
  | _ => none }
def fnExactKeepsOkRow : OpenClaim := { program := "ytnchipcpeeofaaa", sum := "e9b80d9c4a7dfd99a15b47a0c2fdd7c73bd4d50cb8c0a8d8d1dcc59d0dbcfcd7", func := "loop.example/ownsquares/laws.FnExactKeepsOk", spec := "fnExactKeepsOk", apart := false }
def FnExactKeepsOkSaid : Prop := fnExactKeepsOkRow.holds Try.pinned (OpenSpec.ofChange fnExactKeepsOkSpec)

/-- ITS FALSE NEIGHBOUR: 'it returns false'. Refute it at one input. -/
def fnExactKeepsOkWrong : ChangeSpec := { name := "fnExactKeepsOk", fn := fun _ => fun
  | [d1, d2, d3] => { results := [.lit (.bool false)], args := [d1, d2, d3] }
  | _ => none }
def FnExactKeepsOkWrongFalsely : Prop := fnExactKeepsOkRow.holds Try.pinned (OpenSpec.ofChange fnExactKeepsOkWrong)

/-- 'laws.FnExactReachedBy': WHATEVER THE INPUT: true; the input reads as it did. -/
def fnExactReachedBySpec : ChangeSpec := { name := "fnExactReachedBy", fn := fun _ => fun
  | [d1, d2, d3] => { results := [.lit (.bool true)], args := [d1, d2, d3] }
  | _ => none }
def fnExactReachedByRow : OpenClaim := { program := "ytnchipcpeeofaaa", sum := "e9b80d9c4a7dfd99a15b47a0c2fdd7c73bd4d50cb8c0a8d8d1dcc59d0dbcfcd7", func := "loop.example/ownsquares/laws.FnExactReachedBy", spec := "fnExactReachedBy", apart := false }
def FnExactReachedBySaid : Prop := fnExactReachedByRow.holds Try.pinned (OpenSpec.ofChange fnExactReachedBySpec)

/-- ITS FALSE NEIGHBOUR: 'it returns false'. Refute it at one input. -/
def fnExactReachedByWrong : ChangeSpec := { name := "fnExactReachedBy", fn := fun _ => fun
  | [d1, d2, d3] => { results := [.lit (.bool false)], args := [d1, d2, d3] }
  | _ => none }
def FnExactReachedByWrongFalsely : Prop := fnExactReachedByRow.holds Try.pinned (OpenSpec.ofChange fnExactReachedByWrong)

/-- 'laws.FnExactCountKeeping': WHATEVER THE INPUT: true; the input reads as it did. -/
def fnExactCountKeepingSpec : ChangeSpec := { name := "fnExactCountKeeping", fn := fun _ => fun
  | [d1, d2] => { results := [.lit (.bool true)], args := [d1, d2] }
  | _ => none }
def fnExactCountKeepingRow : OpenClaim := { program := "ytnchipcpeeofaaa", sum := "e9b80d9c4a7dfd99a15b47a0c2fdd7c73bd4d50cb8c0a8d8d1dcc59d0dbcfcd7", func := "loop.example/ownsquares/laws.FnExactCountKeeping", spec := "fnExactCountKeeping", unfollowed := true, recurses := true, apart := false }
def FnExactCountKeepingSaid : Prop := fnExactCountKeepingRow.holds Try.pinned (OpenSpec.ofChange fnExactCountKeepingSpec)

/-- ITS FALSE NEIGHBOUR: 'it returns false'. Refute it at one input. -/
def fnExactCountKeepingWrong : ChangeSpec := { name := "fnExactCountKeeping", fn := fun _ => fun
  | [d1, d2] => { results := [.lit (.bool false)], args := [d1, d2] }
  | _ => none }
def FnExactCountKeepingWrongFalsely : Prop := fnExactCountKeepingRow.holds Try.pinned (OpenSpec.ofChange fnExactCountKeepingWrong)

/-- 'laws.FnExactPushingOf': WHATEVER THE INPUT: true; the input reads as it did. -/
def fnExactPushingOfSpec : ChangeSpec := { name := "fnExactPushingOf", fn := fun _ => fun
  | [d1, d2] => { results := [.lit (.bool true)], args := [d1, d2] }
  | _ => none }
def fnExactPushingOfRow : OpenClaim := { program := "ytnchipcpeeofaaa", sum := "e9b80d9c4a7dfd99a15b47a0c2fdd7c73bd4d50cb8c0a8d8d1dcc59d0dbcfcd7", func := "loop.example/ownsquares/laws.FnExactPushingOf", spec := "fnExactPushingOf", unfollowed := true, recurses := true, apart := false }
def FnExactPushingOfSaid : Prop := fnExactPushingOfRow.holds Try.pinned (OpenSpec.ofChange fnExactPushingOfSpec)

/-- ITS FALSE NEIGHBOUR: 'it returns false'. Refute it at one input. -/
def fnExactPushingOfWrong : ChangeSpec := { name := "fnExactPushingOf", fn := fun _ => fun
  | [d1, d2] => { results := [.lit (.bool false)], args := [d1, d2] }
  | _ => none }
def FnExactPushingOfWrongFalsely : Prop := fnExactPushingOfRow.holds Try.pinned (OpenSpec.ofChange fnExactPushingOfWrong)

/- THE SECOND FORM. 'bulk': how many values and letters a reading holds, each counted each time it is reached (what is shared counts as often as it is met; a slice's spare places count too). A statement '..UptoSaid' is the law's where the arguments, and the package variables that the reading takes, are together of bulk at most 1048576: NARROWER than '..Said'. Prove '..Said' where nothing that the law and all that it calls make is longer than what came in: it says more and counts as full. Else prove '..UptoSaid'. A law counts once. -/
mutual
def uptoBulk {H : Type} : DataW H → Nat
  | .lit (.string bytes) => bytes.length + 1
  | .lit _ => 1
  | .nil => 1
  | .ptr d => uptoBulk d + 1
  | .slice elems spare => uptoBulkAll elems + uptoBulkAll spare + 1
  | .agg parts => uptoBulkAll parts + 1
  | .iface _ d => uptoBulk d + 1
  | .map entries => uptoBulkEntries entries + 1
  | .held _ => 1
def uptoBulkAll {H : Type} : List (DataW H) → Nat
  | [] => 0
  | d :: r => uptoBulk d + uptoBulkAll r
def uptoBulkEntries {H : Type} : List (Lit × DataW H) → Nat
  | [] => 0
  | x :: r => uptoBulkEntry x + uptoBulkEntries r
def uptoBulkEntry {H : Type} : Lit × DataW H → Nat
  | (.string bytes, d) => bytes.length + uptoBulk d + 1
  | (_, d) => uptoBulk d + 1
 end
def uptoSmall : (H : Type) → List (DataW H) → Bool := fun _ ds => decide (uptoBulkAll ds ≤ 1048576)
def OpenSpec.upto (s : _root_.Go.ChangeSpec) : _root_.Go.OpenSpec := { _root_.Go.OpenSpec.ofChange s with cond := some uptoSmall }

/-- 'laws.FnMapOk', WHERE WHAT IT READS IS OF BULK AT MOST 1048576: true; the input reads as it did. -/
def fnMapOkUptoRow : OpenClaim := { program := "ytnchipcpeeofaaa", sum := "e9b80d9c4a7dfd99a15b47a0c2fdd7c73bd4d50cb8c0a8d8d1dcc59d0dbcfcd7", func := "loop.example/ownsquares/laws.FnMapOk", spec := "fnMapOk", apart := false, narrowed := true }
def FnMapOkUptoSaid : Prop := fnMapOkUptoRow.holds Try.pinned (OpenSpec.upto fnMapOkSpec)

/-- 'laws.FnKeepsOk', WHERE WHAT IT READS IS OF BULK AT MOST 1048576: true; the input reads as it did. -/
def fnKeepsOkUptoRow : OpenClaim := { program := "ytnchipcpeeofaaa", sum := "e9b80d9c4a7dfd99a15b47a0c2fdd7c73bd4d50cb8c0a8d8d1dcc59d0dbcfcd7", func := "loop.example/ownsquares/laws.FnKeepsOk", spec := "fnKeepsOk", apart := false, narrowed := true }
def FnKeepsOkUptoSaid : Prop := fnKeepsOkUptoRow.holds Try.pinned (OpenSpec.upto fnKeepsOkSpec)

/-- 'laws.FnReachedBy', WHERE WHAT IT READS IS OF BULK AT MOST 1048576: true; the input reads as it did. -/
def fnReachedByUptoRow : OpenClaim := { program := "ytnchipcpeeofaaa", sum := "e9b80d9c4a7dfd99a15b47a0c2fdd7c73bd4d50cb8c0a8d8d1dcc59d0dbcfcd7", func := "loop.example/ownsquares/laws.FnReachedBy", spec := "fnReachedBy", unfollowed := true, recurses := true, apart := false, narrowed := true }
def FnReachedByUptoSaid : Prop := fnReachedByUptoRow.holds Try.pinned (OpenSpec.upto fnReachedBySpec)

/-- 'laws.FnCountKeeping', WHERE WHAT IT READS IS OF BULK AT MOST 1048576: true; the input reads as it did. -/
def fnCountKeepingUptoRow : OpenClaim := { program := "ytnchipcpeeofaaa", sum := "e9b80d9c4a7dfd99a15b47a0c2fdd7c73bd4d50cb8c0a8d8d1dcc59d0dbcfcd7", func := "loop.example/ownsquares/laws.FnCountKeeping", spec := "fnCountKeeping", unfollowed := true, recurses := true, apart := false, narrowed := true }
def FnCountKeepingUptoSaid : Prop := fnCountKeepingUptoRow.holds Try.pinned (OpenSpec.upto fnCountKeepingSpec)

/-- 'laws.FnPushingOf', WHERE WHAT IT READS IS OF BULK AT MOST 1048576: true; the input reads as it did. -/
def fnPushingOfUptoRow : OpenClaim := { program := "ytnchipcpeeofaaa", sum := "e9b80d9c4a7dfd99a15b47a0c2fdd7c73bd4d50cb8c0a8d8d1dcc59d0dbcfcd7", func := "loop.example/ownsquares/laws.FnPushingOf", spec := "fnPushingOf", unfollowed := true, recurses := true, apart := false, narrowed := true }
def FnPushingOfUptoSaid : Prop := fnPushingOfUptoRow.holds Try.pinned (OpenSpec.upto fnPushingOfSpec)

/-- 'laws.FnExactMapOk', WHERE WHAT IT READS IS OF BULK AT MOST 1048576: true; the input reads as it did. -/
def fnExactMapOkUptoRow : OpenClaim := { program := "ytnchipcpeeofaaa", sum := "e9b80d9c4a7dfd99a15b47a0c2fdd7c73bd4d50cb8c0a8d8d1dcc59d0dbcfcd7", func := "loop.example/ownsquares/laws.FnExactMapOk", spec := "fnExactMapOk", apart := false, narrowed := true }
def FnExactMapOkUptoSaid : Prop := fnExactMapOkUptoRow.holds Try.pinned (OpenSpec.upto fnExactMapOkSpec)

/-- 'laws.FnExactKeepsOk', WHERE WHAT IT READS IS OF BULK AT MOST 1048576: true; the input reads as it did. -/
def fnExactKeepsOkUptoRow : OpenClaim := { program := "ytnchipcpeeofaaa", sum := "e9b80d9c4a7dfd99a15b47a0c2fdd7c73bd4d50cb8c0a8d8d1dcc59d0dbcfcd7", func := "loop.example/ownsquares/laws.FnExactKeepsOk", spec := "fnExactKeepsOk", apart := false, narrowed := true }
def FnExactKeepsOkUptoSaid : Prop := fnExactKeepsOkUptoRow.holds Try.pinned (OpenSpec.upto fnExactKeepsOkSpec)

/-- 'laws.FnExactReachedBy', WHERE WHAT IT READS IS OF BULK AT MOST 1048576: true; the input reads as it did. -/
def fnExactReachedByUptoRow : OpenClaim := { program := "ytnchipcpeeofaaa", sum := "e9b80d9c4a7dfd99a15b47a0c2fdd7c73bd4d50cb8c0a8d8d1dcc59d0dbcfcd7", func := "loop.example/ownsquares/laws.FnExactReachedBy", spec := "fnExactReachedBy", apart := false, narrowed := true }
def FnExactReachedByUptoSaid : Prop := fnExactReachedByUptoRow.holds Try.pinned (OpenSpec.upto fnExactReachedBySpec)

/-- 'laws.FnExactCountKeeping', WHERE WHAT IT READS IS OF BULK AT MOST 1048576: true; the input reads as it did. -/
def fnExactCountKeepingUptoRow : OpenClaim := { program := "ytnchipcpeeofaaa", sum := "e9b80d9c4a7dfd99a15b47a0c2fdd7c73bd4d50cb8c0a8d8d1dcc59d0dbcfcd7", func := "loop.example/ownsquares/laws.FnExactCountKeeping", spec := "fnExactCountKeeping", unfollowed := true, recurses := true, apart := false, narrowed := true }
def FnExactCountKeepingUptoSaid : Prop := fnExactCountKeepingUptoRow.holds Try.pinned (OpenSpec.upto fnExactCountKeepingSpec)

/-- 'laws.FnExactPushingOf', WHERE WHAT IT READS IS OF BULK AT MOST 1048576: true; the input reads as it did. -/
def fnExactPushingOfUptoRow : OpenClaim := { program := "ytnchipcpeeofaaa", sum := "e9b80d9c4a7dfd99a15b47a0c2fdd7c73bd4d50cb8c0a8d8d1dcc59d0dbcfcd7", func := "loop.example/ownsquares/laws.FnExactPushingOf", spec := "fnExactPushingOf", unfollowed := true, recurses := true, apart := false, narrowed := true }
def FnExactPushingOfUptoSaid : Prop := fnExactPushingOfUptoRow.holds Try.pinned (OpenSpec.upto fnExactPushingOfSpec)

end Rows
end Go.Proofs.Ytnchipcpeeofaaa
