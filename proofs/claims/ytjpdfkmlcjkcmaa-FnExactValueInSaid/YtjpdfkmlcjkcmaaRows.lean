/-
  No cell of these rows narrows 'for every input' (looked for: loops, veiled, ifaces, maps, wideKeys, modest, calm, conditions, laid).
  DERIVED. THE GIVEN ROWS OF THIS SEAT. 12 by the template 'for every input the law returns true; each argument reads behind the call as it read before'; 0 by the template 'total and deterministic' (their statements: YtjpdfkmlcjkcmaaTotals.lean).
  GIVEN WITH THE SEED: the statements are not yours to turn. If you find one false, say at which input.
  Laid BY PROGRAM, IN A SANDBOX (cutbox-rows.mjs): the forced cells as the released guide's own fill.sh prints them over the translation a4b45119b39baf71… (all of the seat's roots in one cut). By AI agents, Wed Nov 11 2026. No macro, syntax, notation, axiom, sorry.
-/
import Derived.Test.YtjpdfkmlcjkcmaaChecked
import GoSem.Claim
import GoSem.ClaimJoined
import GoSem.ClaimMapViews
import Derived.JoinedTies
import Derived.KernelRfl
namespace Go.Proofs.Ytjpdfkmlcjkcmaa
/- THE CELL 'sum', in the pinned program and in every row, IS THE sha256 OF THE DUMP (.gsa) THAT YtjpdfkmlcjkcmaaProg.lean LOADS. Nothing in Lean hashes anything: it is a label: what it is worth is what the hold of that sum in a sandbox is worth. -/
noncomputable def Try.pinned : Pinned := { name := "ytjpdfkmlcjkcmaa", sum := "a4b45119b39baf7110b2d0f7c6e868f477fef02b86655fb37712766a8ee48b40", checked := Try.checked }
namespace Rows
def none {H : Type} : Left H := { results := [], args := [] }

/-- 'laws.FnWordOk': WHATEVER THE INPUT: true; the input reads as it did. -/
def fnWordOkSpec : ChangeSpec := { name := "fnWordOk", fn := fun _ => fun
  | [d1, d2] => { results := [.lit (.bool true)], args := [d1, d2] }
  | _ => none }
def fnWordOkRow : OpenClaim := { program := "ytjpdfkmlcjkcmaa", sum := "a4b45119b39baf7110b2d0f7c6e868f477fef02b86655fb37712766a8ee48b40", func := "loop.example/ownsquares/laws.FnWordOk", spec := "fnWordOk", apart := false }
def FnWordOkSaid : Prop := fnWordOkRow.holds Try.pinned (OpenSpec.ofChange fnWordOkSpec)

/-- ITS FALSE NEIGHBOUR: 'it returns false'. Refute it at one input. -/
def fnWordOkWrong : ChangeSpec := { name := "fnWordOk", fn := fun _ => fun
  | [d1, d2] => { results := [.lit (.bool false)], args := [d1, d2] }
  | _ => none }
def FnWordOkWrongFalsely : Prop := fnWordOkRow.holds Try.pinned (OpenSpec.ofChange fnWordOkWrong)

/-- 'laws.FnLettersIn': WHATEVER THE INPUT: true; the input reads as it did. -/
def fnLettersInSpec : ChangeSpec := { name := "fnLettersIn", fn := fun _ => fun
  | [d] => { results := [.lit (.bool true)], args := [d] }
  | _ => none }
def fnLettersInRow : OpenClaim := { program := "ytjpdfkmlcjkcmaa", sum := "a4b45119b39baf7110b2d0f7c6e868f477fef02b86655fb37712766a8ee48b40", func := "loop.example/ownsquares/laws.FnLettersIn", spec := "fnLettersIn", apart := false }
def FnLettersInSaid : Prop := fnLettersInRow.holds Try.pinned (OpenSpec.ofChange fnLettersInSpec)

/-- ITS FALSE NEIGHBOUR: 'it returns false'. Refute it at one input. -/
def fnLettersInWrong : ChangeSpec := { name := "fnLettersIn", fn := fun _ => fun
  | [d] => { results := [.lit (.bool false)], args := [d] }
  | _ => none }
def FnLettersInWrongFalsely : Prop := fnLettersInRow.holds Try.pinned (OpenSpec.ofChange fnLettersInWrong)

/-- 'laws.FnHeadOf': WHATEVER THE INPUT: true; the input reads as it did. -/
def fnHeadOfSpec : ChangeSpec := { name := "fnHeadOf", fn := fun _ => fun
  | [d] => { results := [.lit (.bool true)], args := [d] }
  | _ => none }
def fnHeadOfRow : OpenClaim := { program := "ytjpdfkmlcjkcmaa", sum := "a4b45119b39baf7110b2d0f7c6e868f477fef02b86655fb37712766a8ee48b40", func := "loop.example/ownsquares/laws.FnHeadOf", spec := "fnHeadOf", apart := false }
def FnHeadOfSaid : Prop := fnHeadOfRow.holds Try.pinned (OpenSpec.ofChange fnHeadOfSpec)

/-- ITS FALSE NEIGHBOUR: 'it returns false'. Refute it at one input. -/
def fnHeadOfWrong : ChangeSpec := { name := "fnHeadOf", fn := fun _ => fun
  | [d] => { results := [.lit (.bool false)], args := [d] }
  | _ => none }
def FnHeadOfWrongFalsely : Prop := fnHeadOfRow.holds Try.pinned (OpenSpec.ofChange fnHeadOfWrong)

/-- 'laws.FnRoundOf': WHATEVER THE INPUT: true; the input reads as it did. -/
def fnRoundOfSpec : ChangeSpec := { name := "fnRoundOf", fn := fun _ => fun
  | [d] => { results := [.lit (.bool true)], args := [d] }
  | _ => none }
def fnRoundOfRow : OpenClaim := { program := "ytjpdfkmlcjkcmaa", sum := "a4b45119b39baf7110b2d0f7c6e868f477fef02b86655fb37712766a8ee48b40", func := "loop.example/ownsquares/laws.FnRoundOf", spec := "fnRoundOf", apart := false }
def FnRoundOfSaid : Prop := fnRoundOfRow.holds Try.pinned (OpenSpec.ofChange fnRoundOfSpec)

/-- ITS FALSE NEIGHBOUR: 'it returns false'. Refute it at one input. -/
def fnRoundOfWrong : ChangeSpec := { name := "fnRoundOf", fn := fun _ => fun
  | [d] => { results := [.lit (.bool false)], args := [d] }
  | _ => none }
def FnRoundOfWrongFalsely : Prop := fnRoundOfRow.holds Try.pinned (OpenSpec.ofChange fnRoundOfWrong)

/-- 'laws.FnTailOf': WHATEVER THE INPUT: true; the input reads as it did. -/
def fnTailOfSpec : ChangeSpec := { name := "fnTailOf", fn := fun _ => fun
  | [d] => { results := [.lit (.bool true)], args := [d] }
  | _ => none }
def fnTailOfRow : OpenClaim := { program := "ytjpdfkmlcjkcmaa", sum := "a4b45119b39baf7110b2d0f7c6e868f477fef02b86655fb37712766a8ee48b40", func := "loop.example/ownsquares/laws.FnTailOf", spec := "fnTailOf", apart := false }
def FnTailOfSaid : Prop := fnTailOfRow.holds Try.pinned (OpenSpec.ofChange fnTailOfSpec)

/-- ITS FALSE NEIGHBOUR: 'it returns false'. Refute it at one input. -/
def fnTailOfWrong : ChangeSpec := { name := "fnTailOf", fn := fun _ => fun
  | [d] => { results := [.lit (.bool false)], args := [d] }
  | _ => none }
def FnTailOfWrongFalsely : Prop := fnTailOfRow.holds Try.pinned (OpenSpec.ofChange fnTailOfWrong)

/-- 'laws.FnValueIn': WHATEVER THE INPUT: true; the input reads as it did. -/
def fnValueInSpec : ChangeSpec := { name := "fnValueIn", fn := fun _ => fun
  | [d1, d2] => { results := [.lit (.bool true)], args := [d1, d2] }
  | _ => none }
def fnValueInRow : OpenClaim := { program := "ytjpdfkmlcjkcmaa", sum := "a4b45119b39baf7110b2d0f7c6e868f477fef02b86655fb37712766a8ee48b40", func := "loop.example/ownsquares/laws.FnValueIn", spec := "fnValueIn", unfollowed := true, recurses := true, apart := false }
def FnValueInSaid : Prop := fnValueInRow.holds Try.pinned (OpenSpec.ofChange fnValueInSpec)

/-- ITS FALSE NEIGHBOUR: 'it returns false'. Refute it at one input. -/
def fnValueInWrong : ChangeSpec := { name := "fnValueIn", fn := fun _ => fun
  | [d1, d2] => { results := [.lit (.bool false)], args := [d1, d2] }
  | _ => none }
def FnValueInWrongFalsely : Prop := fnValueInRow.holds Try.pinned (OpenSpec.ofChange fnValueInWrong)

/-- 'laws.FnExactWordOk': WHATEVER THE INPUT: true; the input reads as it did. -/
def fnExactWordOkSpec : ChangeSpec := { name := "fnExactWordOk", fn := fun _ => fun
  | [d] => { results := [.lit (.bool true)], args := [d] }
  | _ => none }
def fnExactWordOkRow : OpenClaim := { program := "ytjpdfkmlcjkcmaa", sum := "a4b45119b39baf7110b2d0f7c6e868f477fef02b86655fb37712766a8ee48b40", func := "loop.example/ownsquares/laws.FnExactWordOk", spec := "fnExactWordOk", apart := false }
def FnExactWordOkSaid : Prop := fnExactWordOkRow.holds Try.pinned (OpenSpec.ofChange fnExactWordOkSpec)

/-- ITS FALSE NEIGHBOUR: 'it returns false'. Refute it at one input. -/
def fnExactWordOkWrong : ChangeSpec := { name := "fnExactWordOk", fn := fun _ => fun
  | [d] => { results := [.lit (.bool false)], args := [d] }
  | _ => none }
def FnExactWordOkWrongFalsely : Prop := fnExactWordOkRow.holds Try.pinned (OpenSpec.ofChange fnExactWordOkWrong)

/-- 'laws.FnExactLettersIn': WHATEVER THE INPUT: true; the input reads as it did. -/
def fnExactLettersInSpec : ChangeSpec := { name := "fnExactLettersIn", fn := fun _ => fun
  | [d] => { results := [.lit (.bool true)], args := [d] }
  | _ => none }
def fnExactLettersInRow : OpenClaim := { program := "ytjpdfkmlcjkcmaa", sum := "a4b45119b39baf7110b2d0f7c6e868f477fef02b86655fb37712766a8ee48b40", func := "loop.example/ownsquares/laws.FnExactLettersIn", spec := "fnExactLettersIn", apart := false }
def FnExactLettersInSaid : Prop := fnExactLettersInRow.holds Try.pinned (OpenSpec.ofChange fnExactLettersInSpec)

/-- ITS FALSE NEIGHBOUR: 'it returns false'. Refute it at one input. -/
def fnExactLettersInWrong : ChangeSpec := { name := "fnExactLettersIn", fn := fun _ => fun
  | [d] => { results := [.lit (.bool false)], args := [d] }
  | _ => none }
def FnExactLettersInWrongFalsely : Prop := fnExactLettersInRow.holds Try.pinned (OpenSpec.ofChange fnExactLettersInWrong)

/-- 'laws.FnExactHeadOf': WHATEVER THE INPUT: true; the input reads as it did. -/
def fnExactHeadOfSpec : ChangeSpec := { name := "fnExactHeadOf", fn := fun _ => fun
  | [d] => { results := [.lit (.bool true)], args := [d] }
  | _ => none }
def fnExactHeadOfRow : OpenClaim := { program := "ytjpdfkmlcjkcmaa", sum := "a4b45119b39baf7110b2d0f7c6e868f477fef02b86655fb37712766a8ee48b40", func := "loop.example/ownsquares/laws.FnExactHeadOf", spec := "fnExactHeadOf", apart := false }
def FnExactHeadOfSaid : Prop := fnExactHeadOfRow.holds Try.pinned (OpenSpec.ofChange fnExactHeadOfSpec)

/-- ITS FALSE NEIGHBOUR: 'it returns false'. Refute it at one input. -/
def fnExactHeadOfWrong : ChangeSpec := { name := "fnExactHeadOf", fn := fun _ => fun
  | [d] => { results := [.lit (.bool false)], args := [d] }
  | _ => none }
def FnExactHeadOfWrongFalsely : Prop := fnExactHeadOfRow.holds Try.pinned (OpenSpec.ofChange fnExactHeadOfWrong)

/-- 'laws.FnExactRoundOf': WHATEVER THE INPUT: true; the input reads as it did. -/
def fnExactRoundOfSpec : ChangeSpec := { name := "fnExactRoundOf", fn := fun _ => fun
  | [d] => { results := [.lit (.bool true)], args := [d] }
  | _ => none }
def fnExactRoundOfRow : OpenClaim := { program := "ytjpdfkmlcjkcmaa", sum := "a4b45119b39baf7110b2d0f7c6e868f477fef02b86655fb37712766a8ee48b40", func := "loop.example/ownsquares/laws.FnExactRoundOf", spec := "fnExactRoundOf", apart := false }
def FnExactRoundOfSaid : Prop := fnExactRoundOfRow.holds Try.pinned (OpenSpec.ofChange fnExactRoundOfSpec)

/-- ITS FALSE NEIGHBOUR: 'it returns false'. Refute it at one input. -/
def fnExactRoundOfWrong : ChangeSpec := { name := "fnExactRoundOf", fn := fun _ => fun
  | [d] => { results := [.lit (.bool false)], args := [d] }
  | _ => none }
def FnExactRoundOfWrongFalsely : Prop := fnExactRoundOfRow.holds Try.pinned (OpenSpec.ofChange fnExactRoundOfWrong)

/-- 'laws.FnExactTailOf': WHATEVER THE INPUT: true; the input reads as it did. -/
def fnExactTailOfSpec : ChangeSpec := { name := "fnExactTailOf", fn := fun _ => fun
  | [d] => { results := [.lit (.bool true)], args := [d] }
  | _ => none }
def fnExactTailOfRow : OpenClaim := { program := "ytjpdfkmlcjkcmaa", sum := "a4b45119b39baf7110b2d0f7c6e868f477fef02b86655fb37712766a8ee48b40", func := "loop.example/ownsquares/laws.FnExactTailOf", spec := "fnExactTailOf", apart := false }
def FnExactTailOfSaid : Prop := fnExactTailOfRow.holds Try.pinned (OpenSpec.ofChange fnExactTailOfSpec)

/-- ITS FALSE NEIGHBOUR: 'it returns false'. Refute it at one input. -/
def fnExactTailOfWrong : ChangeSpec := { name := "fnExactTailOf", fn := fun _ => fun
  | [d] => { results := [.lit (.bool false)], args := [d] }
  | _ => none }
def FnExactTailOfWrongFalsely : Prop := fnExactTailOfRow.holds Try.pinned (OpenSpec.ofChange fnExactTailOfWrong)

/-- 'laws.FnExactValueIn': WHATEVER THE INPUT: true; the input reads as it did. -/
def fnExactValueInSpec : ChangeSpec := { name := "fnExactValueIn", fn := fun _ => fun
  | [d1, d2, d3, d4, d5] => { results := [.lit (.bool true)], args := [d1, d2, d3, d4, d5] }
  | _ => none }
def fnExactValueInRow : OpenClaim := { program := "ytjpdfkmlcjkcmaa", sum := "a4b45119b39baf7110b2d0f7c6e868f477fef02b86655fb37712766a8ee48b40", func := "loop.example/ownsquares/laws.FnExactValueIn", spec := "fnExactValueIn", unfollowed := true, recurses := true, apart := false }
def FnExactValueInSaid : Prop := fnExactValueInRow.holds Try.pinned (OpenSpec.ofChange fnExactValueInSpec)

/-- ITS FALSE NEIGHBOUR: 'it returns false'. Refute it at one input. -/
def fnExactValueInWrong : ChangeSpec := { name := "fnExactValueIn", fn := fun _ => fun
  | [d1, d2, d3, d4, d5] => { results := [.lit (.bool false)], args := [d1, d2, d3, d4, d5] }
  | _ => none }
def FnExactValueInWrongFalsely : Prop := fnExactValueInRow.holds Try.pinned (OpenSpec.ofChange fnExactValueInWrong)

/- THE SECOND FORM. 'bulk': how many values and letters a reading holds, each counted each time it is reached (what is shared counts as often as it is met; a slice's spare places count too). A statement '..UptoSaid' is the law's where the arguments, and the package variables that the reading takes, are together of bulk at most 1048576: NARROWER than '..Said'. Prove '..Said' where nothing that the law and all that it calls make is longer than what came in: it says more and counts as full. Else prove '..UptoSaid'. A law counts once. -/
mutual
def uptoBulk {H : Type} : DataW H → Nat
  | .lit (.string bytes) => bytes.length + 1
  | .lit _ => 1
  | .nil => 1
  | .ptr d => uptoBulk d + 1
  | .slice elems spare => uptoBulkAll elems + uptoBulkAll spare + 1
  | .agg parts => uptoBulkAll parts + 1
  | .iface _ d => uptoBulk d + 1
  | .map entries => uptoBulkEntries entries + 1
  | .held _ => 1
def uptoBulkAll {H : Type} : List (DataW H) → Nat
  | [] => 0
  | d :: r => uptoBulk d + uptoBulkAll r
def uptoBulkEntries {H : Type} : List (Lit × DataW H) → Nat
  | [] => 0
  | x :: r => uptoBulkEntry x + uptoBulkEntries r
def uptoBulkEntry {H : Type} : Lit × DataW H → Nat
  | (.string bytes, d) => bytes.length + uptoBulk d + 1
  | (_, d) => uptoBulk d + 1
 end
def uptoSmall : (H : Type) → List (DataW H) → Bool := fun _ ds => decide (uptoBulkAll ds ≤ 1048576)
def OpenSpec.upto (s : _root_.Go.ChangeSpec) : _root_.Go.OpenSpec := { _root_.Go.OpenSpec.ofChange s with cond := some uptoSmall }

/-- 'laws.FnWordOk', WHERE WHAT IT READS IS OF BULK AT MOST 1048576: true; the input reads as it did. -/
def fnWordOkUptoRow : OpenClaim := { program := "ytjpdfkmlcjkcmaa", sum := "a4b45119b39baf7110b2d0f7c6e868f477fef02b86655fb37712766a8ee48b40", func := "loop.example/ownsquares/laws.FnWordOk", spec := "fnWordOk", apart := false, narrowed := true }
def FnWordOkUptoSaid : Prop := fnWordOkUptoRow.holds Try.pinned (OpenSpec.upto fnWordOkSpec)

/-- 'laws.FnLettersIn', WHERE WHAT IT READS IS OF BULK AT MOST 1048576: true; the input reads as it did. -/
def fnLettersInUptoRow : OpenClaim := { program := "ytjpdfkmlcjkcmaa", sum := "a4b45119b39baf7110b2d0f7c6e868f477fef02b86655fb37712766a8ee48b40", func := "loop.example/ownsquares/laws.FnLettersIn", spec := "fnLettersIn", apart := false, narrowed := true }
def FnLettersInUptoSaid : Prop := fnLettersInUptoRow.holds Try.pinned (OpenSpec.upto fnLettersInSpec)

/-- 'laws.FnHeadOf', WHERE WHAT IT READS IS OF BULK AT MOST 1048576: true; the input reads as it did. -/
def fnHeadOfUptoRow : OpenClaim := { program := "ytjpdfkmlcjkcmaa", sum := "a4b45119b39baf7110b2d0f7c6e868f477fef02b86655fb37712766a8ee48b40", func := "loop.example/ownsquares/laws.FnHeadOf", spec := "fnHeadOf", apart := false, narrowed := true }
def FnHeadOfUptoSaid : Prop := fnHeadOfUptoRow.holds Try.pinned (OpenSpec.upto fnHeadOfSpec)

/-- 'laws.FnRoundOf', WHERE WHAT IT READS IS OF BULK AT MOST 1048576: true; the input reads as it did. -/
def fnRoundOfUptoRow : OpenClaim := { program := "ytjpdfkmlcjkcmaa", sum := "a4b45119b39baf7110b2d0f7c6e868f477fef02b86655fb37712766a8ee48b40", func := "loop.example/ownsquares/laws.FnRoundOf", spec := "fnRoundOf", apart := false, narrowed := true }
def FnRoundOfUptoSaid : Prop := fnRoundOfUptoRow.holds Try.pinned (OpenSpec.upto fnRoundOfSpec)

/-- 'laws.FnTailOf', WHERE WHAT IT READS IS OF BULK AT MOST 1048576: true; the input reads as it did. -/
def fnTailOfUptoRow : OpenClaim := { program := "ytjpdfkmlcjkcmaa", sum := "a4b45119b39baf7110b2d0f7c6e868f477fef02b86655fb37712766a8ee48b40", func := "loop.example/ownsquares/laws.FnTailOf", spec := "fnTailOf", apart := false, narrowed := true }
def FnTailOfUptoSaid : Prop := fnTailOfUptoRow.holds Try.pinned (OpenSpec.upto fnTailOfSpec)

/-- 'laws.FnValueIn', WHERE WHAT IT READS IS OF BULK AT MOST 1048576: true; the input reads as it did. -/
def fnValueInUptoRow : OpenClaim := { program := "ytjpdfkmlcjkcmaa", sum := "a4b45119b39baf7110b2d0f7c6e868f477fef02b86655fb37712766a8ee48b40", func := "loop.example/ownsquares/laws.FnValueIn", spec := "fnValueIn", unfollowed := true, recurses := true, apart := false, narrowed := true }
def FnValueInUptoSaid : Prop := fnValueInUptoRow.holds Try.pinned (OpenSpec.upto fnValueInSpec)

/-- 'laws.FnExactWordOk', WHERE WHAT IT READS IS OF BULK AT MOST 1048576: true; the input reads as it did. -/
def fnExactWordOkUptoRow : OpenClaim := { program := "ytjpdfkmlcjkcmaa", sum := "a4b45119b39baf7110b2d0f7c6e868f477fef02b86655fb37712766a8ee48b40", func := "loop.example/ownsquares/laws.FnExactWordOk", spec := "fnExactWordOk", apart := false, narrowed := true }
def FnExactWordOkUptoSaid : Prop := fnExactWordOkUptoRow.holds Try.pinned (OpenSpec.upto fnExactWordOkSpec)

/-- 'laws.FnExactLettersIn', WHERE WHAT IT READS IS OF BULK AT MOST 1048576: true; the input reads as it did. -/
def fnExactLettersInUptoRow : OpenClaim := { program := "ytjpdfkmlcjkcmaa", sum := "a4b45119b39baf7110b2d0f7c6e868f477fef02b86655fb37712766a8ee48b40", func := "loop.example/ownsquares/laws.FnExactLettersIn", spec := "fnExactLettersIn", apart := false, narrowed := true }
def FnExactLettersInUptoSaid : Prop := fnExactLettersInUptoRow.holds Try.pinned (OpenSpec.upto fnExactLettersInSpec)

/-- 'laws.FnExactHeadOf', WHERE WHAT IT READS IS OF BULK AT MOST 1048576: true; the input reads as it did. -/
def fnExactHeadOfUptoRow : OpenClaim := { program := "ytjpdfkmlcjkcmaa", sum := "a4b45119b39baf7110b2d0f7c6e868f477fef02b86655fb37712766a8ee48b40", func := "loop.example/ownsquares/laws.FnExactHeadOf", spec := "fnExactHeadOf", apart := false, narrowed := true }
def FnExactHeadOfUptoSaid : Prop := fnExactHeadOfUptoRow.holds Try.pinned (OpenSpec.upto fnExactHeadOfSpec)

/-- 'laws.FnExactRoundOf', WHERE WHAT IT READS IS OF BULK AT MOST 1048576: true; the input reads as it did. -/
def fnExactRoundOfUptoRow : OpenClaim := { program := "ytjpdfkmlcjkcmaa", sum := "a4b45119b39baf7110b2d0f7c6e868f477fef02b86655fb37712766a8ee48b40", func := "loop.example/ownsquares/laws.FnExactRoundOf", spec := "fnExactRoundOf", apart := false, narrowed := true }
def FnExactRoundOfUptoSaid : Prop := fnExactRoundOfUptoRow.holds Try.pinned (OpenSpec.upto fnExactRoundOfSpec)

/-- 'laws.FnExactTailOf', WHERE WHAT IT READS IS OF BULK AT MOST 1048576: true; the input reads as it did. -/
def fnExactTailOfUptoRow : OpenClaim := { program := "ytjpdfkmlcjkcmaa", sum := "a4b45119b39baf7110b2d0f7c6e868f477fef02b86655fb37712766a8ee48b40", func := "loop.example/ownsquares/laws.FnExactTailOf", spec := "fnExactTailOf", apart := false, narrowed := true }
def FnExactTailOfUptoSaid : Prop := fnExactTailOfUptoRow.holds Try.pinned (OpenSpec.upto fnExactTailOfSpec)

/-- 'laws.FnExactValueIn', WHERE WHAT IT READS IS OF BULK AT MOST 1048576: true; the input reads as it did. -/
def fnExactValueInUptoRow : OpenClaim := { program := "ytjpdfkmlcjkcmaa", sum := "a4b45119b39baf7110b2d0f7c6e868f477fef02b86655fb37712766a8ee48b40", func := "loop.example/ownsquares/laws.FnExactValueIn", spec := "fnExactValueIn", unfollowed := true, recurses := true, apart := false, narrowed := true }
def FnExactValueInUptoSaid : Prop := fnExactValueInUptoRow.holds Try.pinned (OpenSpec.upto fnExactValueInSpec)

end Rows
end Go.Proofs.Ytjpdfkmlcjkcmaa
