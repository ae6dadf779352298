/-
  No cell of these rows narrows 'for every input' (looked for: loops, veiled, ifaces, maps, wideKeys, modest, calm, conditions, laid).
  DERIVED. THE GIVEN ROWS OF THIS SEAT. 10 by the template 'for every input the law returns true; each argument reads behind the call as it read before'; 0 by the template 'total and deterministic' (their statements: YtjmjfmgbfjmaaaaTotals.lean).
  GIVEN WITH THE SEED: the statements are not yours to turn. If you find one false, say at which input.
  Laid BY PROGRAM, IN A SANDBOX (cutbox-rows.mjs): the forced cells as the released guide's own fill.sh prints them over the translation ff2b5f5cb1fae3f8… (all of the seat's roots in one cut). By AI agents, Wed Nov 11 2026. No macro, syntax, notation, axiom, sorry.
-/
import Derived.Test.YtjmjfmgbfjmaaaaChecked
import GoSem.Claim
import GoSem.ClaimJoined
import GoSem.ClaimMapViews
import Derived.JoinedTies
import Derived.KernelRfl
namespace Go.Proofs.Ytjmjfmgbfjmaaaa
/- THE CELL 'sum', in the pinned program and in every row, IS THE sha256 OF THE DUMP (.gsa) THAT YtjmjfmgbfjmaaaaProg.lean LOADS. Nothing in Lean hashes anything: it is a label: what it is worth is what the hold of that sum in a sandbox is worth. -/
noncomputable def Try.pinned : Pinned := { name := "ytjmjfmgbfjmaaaa", sum := "ff2b5f5cb1fae3f824b7020cfaccede1d3d61fa72fa9a3dceade447eddc72347", checked := Try.checked }
namespace Rows
def none {H : Type} : Left H := { results := [], args := [] }

/-- 'laws.FnFullWords': WHATEVER THE INPUT: true; the input reads as it did. -/
def fnFullWordsSpec : ChangeSpec := { name := "fnFullWords", fn := fun _ => fun
  | [d] => { results := [.lit (.bool true)], args := [d] }
  | _ => none }
def fnFullWordsRow : OpenClaim := { program := "ytjmjfmgbfjmaaaa", sum := "ff2b5f5cb1fae3f824b7020cfaccede1d3d61fa72fa9a3dceade447eddc72347", func := "loop.example/ownsquares/laws.FnFullWords", spec := "fnFullWords", unfollowed := true, recurses := true, apart := false }
def FnFullWordsSaid : Prop := fnFullWordsRow.holds Try.pinned (OpenSpec.ofChange fnFullWordsSpec)

/-- ITS FALSE NEIGHBOUR: 'it returns false'. Refute it at one input. -/
def fnFullWordsWrong : ChangeSpec := { name := "fnFullWords", fn := fun _ => fun
  | [d] => { results := [.lit (.bool false)], args := [d] }
  | _ => none }
def FnFullWordsWrongFalsely : Prop := fnFullWordsRow.holds Try.pinned (OpenSpec.ofChange fnFullWordsWrong)

/-- 'laws.FnAllWords': WHATEVER THE INPUT: true; the input reads as it did. -/
def fnAllWordsSpec : ChangeSpec := { name := "fnAllWords", fn := fun _ => fun
  | [d] => { results := [.lit (.bool true)], args := [d] }
  | _ => none }
def fnAllWordsRow : OpenClaim := { program := "ytjmjfmgbfjmaaaa", sum := "ff2b5f5cb1fae3f824b7020cfaccede1d3d61fa72fa9a3dceade447eddc72347", func := "loop.example/ownsquares/laws.FnAllWords", spec := "fnAllWords", unfollowed := true, recurses := true, apart := false }
def FnAllWordsSaid : Prop := fnAllWordsRow.holds Try.pinned (OpenSpec.ofChange fnAllWordsSpec)

/-- ITS FALSE NEIGHBOUR: 'it returns false'. Refute it at one input. -/
def fnAllWordsWrong : ChangeSpec := { name := "fnAllWords", fn := fun _ => fun
  | [d] => { results := [.lit (.bool false)], args := [d] }
  | _ => none }
def FnAllWordsWrongFalsely : Prop := fnAllWordsRow.holds Try.pinned (OpenSpec.ofChange fnAllWordsWrong)

/-- 'laws.FnCountFull': WHATEVER THE INPUT: true; the input reads as it did. -/
def fnCountFullSpec : ChangeSpec := { name := "fnCountFull", fn := fun _ => fun
  | [d] => { results := [.lit (.bool true)], args := [d] }
  | _ => none }
def fnCountFullRow : OpenClaim := { program := "ytjmjfmgbfjmaaaa", sum := "ff2b5f5cb1fae3f824b7020cfaccede1d3d61fa72fa9a3dceade447eddc72347", func := "loop.example/ownsquares/laws.FnCountFull", spec := "fnCountFull", recurses := true, apart := false }
def FnCountFullSaid : Prop := fnCountFullRow.holds Try.pinned (OpenSpec.ofChange fnCountFullSpec)

/-- ITS FALSE NEIGHBOUR: 'it returns false'. Refute it at one input. -/
def fnCountFullWrong : ChangeSpec := { name := "fnCountFull", fn := fun _ => fun
  | [d] => { results := [.lit (.bool false)], args := [d] }
  | _ => none }
def FnCountFullWrongFalsely : Prop := fnCountFullRow.holds Try.pinned (OpenSpec.ofChange fnCountFullWrong)

/-- 'laws.FnFreeTable': WHATEVER THE INPUT: true; the input reads as it did. -/
def fnFreeTableSpec : ChangeSpec := { name := "fnFreeTable", fn := fun _ => fun
  | [d] => { results := [.lit (.bool true)], args := [d] }
  | _ => none }
def fnFreeTableRow : OpenClaim := { program := "ytjmjfmgbfjmaaaa", sum := "ff2b5f5cb1fae3f824b7020cfaccede1d3d61fa72fa9a3dceade447eddc72347", func := "loop.example/ownsquares/laws.FnFreeTable", spec := "fnFreeTable", unfollowed := true, recurses := true, apart := false }
def FnFreeTableSaid : Prop := fnFreeTableRow.holds Try.pinned (OpenSpec.ofChange fnFreeTableSpec)

/-- ITS FALSE NEIGHBOUR: 'it returns false'. Refute it at one input. -/
def fnFreeTableWrong : ChangeSpec := { name := "fnFreeTable", fn := fun _ => fun
  | [d] => { results := [.lit (.bool false)], args := [d] }
  | _ => none }
def FnFreeTableWrongFalsely : Prop := fnFreeTableRow.holds Try.pinned (OpenSpec.ofChange fnFreeTableWrong)

/-- 'laws.FnPictureIn': WHATEVER THE INPUT: true; the input reads as it did. -/
def fnPictureInSpec : ChangeSpec := { name := "fnPictureIn", fn := fun _ => fun
  | [d] => { results := [.lit (.bool true)], args := [d] }
  | _ => none }
def fnPictureInRow : OpenClaim := { program := "ytjmjfmgbfjmaaaa", sum := "ff2b5f5cb1fae3f824b7020cfaccede1d3d61fa72fa9a3dceade447eddc72347", func := "loop.example/ownsquares/laws.FnPictureIn", spec := "fnPictureIn", unfollowed := true, recurses := true, apart := false }
def FnPictureInSaid : Prop := fnPictureInRow.holds Try.pinned (OpenSpec.ofChange fnPictureInSpec)

/-- ITS FALSE NEIGHBOUR: 'it returns false'. Refute it at one input. -/
def fnPictureInWrong : ChangeSpec := { name := "fnPictureIn", fn := fun _ => fun
  | [d] => { results := [.lit (.bool false)], args := [d] }
  | _ => none }
def FnPictureInWrongFalsely : Prop := fnPictureInRow.holds Try.pinned (OpenSpec.ofChange fnPictureInWrong)

/-- 'laws.FnExactFullWords': WHATEVER THE INPUT: true; the input reads as it did. -/
def fnExactFullWordsSpec : ChangeSpec := { name := "fnExactFullWords", fn := fun _ => fun
  | [d] => { results := [.lit (.bool true)], args := [d] }
  | _ => none }
def fnExactFullWordsRow : OpenClaim := { program := "ytjmjfmgbfjmaaaa", sum := "ff2b5f5cb1fae3f824b7020cfaccede1d3d61fa72fa9a3dceade447eddc72347", func := "loop.example/ownsquares/laws.FnExactFullWords", spec := "fnExactFullWords", unfollowed := true, recurses := true, apart := false }
def FnExactFullWordsSaid : Prop := fnExactFullWordsRow.holds Try.pinned (OpenSpec.ofChange fnExactFullWordsSpec)

/-- ITS FALSE NEIGHBOUR: 'it returns false'. Refute it at one input. -/
def fnExactFullWordsWrong : ChangeSpec := { name := "fnExactFullWords", fn := fun _ => fun
  | [d] => { results := [.lit (.bool false)], args := [d] }
  | _ => none }
def FnExactFullWordsWrongFalsely : Prop := fnExactFullWordsRow.holds Try.pinned (OpenSpec.ofChange fnExactFullWordsWrong)

/-- 'laws.FnExactAllWords': WHATEVER THE INPUT: true; the input reads as it did. -/
def fnExactAllWordsSpec : ChangeSpec := { name := "fnExactAllWords", fn := fun _ => fun
  | [d] => { results := [.lit (.bool true)], args := [d] }
  | _ => none }
def fnExactAllWordsRow : OpenClaim := { program := "ytjmjfmgbfjmaaaa", sum := "ff2b5f5cb1fae3f824b7020cfaccede1d3d61fa72fa9a3dceade447eddc72347", func := "loop.example/ownsquares/laws.FnExactAllWords", spec := "fnExactAllWords", unfollowed := true, recurses := true, apart := false }
def FnExactAllWordsSaid : Prop := fnExactAllWordsRow.holds Try.pinned (OpenSpec.ofChange fnExactAllWordsSpec)

/-- ITS FALSE NEIGHBOUR: 'it returns false'. Refute it at one input. -/
def fnExactAllWordsWrong : ChangeSpec := { name := "fnExactAllWords", fn := fun _ => fun
  | [d] => { results := [.lit (.bool false)], args := [d] }
  | _ => none }
def FnExactAllWordsWrongFalsely : Prop := fnExactAllWordsRow.holds Try.pinned (OpenSpec.ofChange fnExactAllWordsWrong)

/-- 'laws.FnExactCountFull': WHATEVER THE INPUT: true; the input reads as it did. -/
def fnExactCountFullSpec : ChangeSpec := { name := "fnExactCountFull", fn := fun _ => fun
  | [d] => { results := [.lit (.bool true)], args := [d] }
  | _ => none }
def fnExactCountFullRow : OpenClaim := { program := "ytjmjfmgbfjmaaaa", sum := "ff2b5f5cb1fae3f824b7020cfaccede1d3d61fa72fa9a3dceade447eddc72347", func := "loop.example/ownsquares/laws.FnExactCountFull", spec := "fnExactCountFull", recurses := true, apart := false }
def FnExactCountFullSaid : Prop := fnExactCountFullRow.holds Try.pinned (OpenSpec.ofChange fnExactCountFullSpec)

/-- ITS FALSE NEIGHBOUR: 'it returns false'. Refute it at one input. -/
def fnExactCountFullWrong : ChangeSpec := { name := "fnExactCountFull", fn := fun _ => fun
  | [d] => { results := [.lit (.bool false)], args := [d] }
  | _ => none }
def FnExactCountFullWrongFalsely : Prop := fnExactCountFullRow.holds Try.pinned (OpenSpec.ofChange fnExactCountFullWrong)

/-- 'laws.FnExactFreeTable': WHATEVER THE INPUT: true; the input reads as it did. -/
def fnExactFreeTableSpec : ChangeSpec := { name := "fnExactFreeTable", fn := fun _ => fun
  | [d] => { results := [.lit (.bool true)], args := [d] }
  | _ => none }
def fnExactFreeTableRow : OpenClaim := { program := "ytjmjfmgbfjmaaaa", sum := "ff2b5f5cb1fae3f824b7020cfaccede1d3d61fa72fa9a3dceade447eddc72347", func := "loop.example/ownsquares/laws.FnExactFreeTable", spec := "fnExactFreeTable", unfollowed := true, recurses := true, apart := false }
def FnExactFreeTableSaid : Prop := fnExactFreeTableRow.holds Try.pinned (OpenSpec.ofChange fnExactFreeTableSpec)

/-- ITS FALSE NEIGHBOUR: 'it returns false'. Refute it at one input. -/
def fnExactFreeTableWrong : ChangeSpec := { name := "fnExactFreeTable", fn := fun _ => fun
  | [d] => { results := [.lit (.bool false)], args := [d] }
  | _ => none }
def FnExactFreeTableWrongFalsely : Prop := fnExactFreeTableRow.holds Try.pinned (OpenSpec.ofChange fnExactFreeTableWrong)

/-- 'laws.FnExactPictureIn': WHATEVER THE INPUT: true; the input reads as it did. -/
def fnExactPictureInSpec : ChangeSpec := { name := "fnExactPictureIn", fn := fun _ => fun
  | [d1, d2, d3] => { results := [.lit (.bool true)], args := [d1, d2, d3] }
  | _ => none }
def fnExactPictureInRow : OpenClaim := { program := "ytjmjfmgbfjmaaaa", sum := "ff2b5f5cb1fae3f824b7020cfaccede1d3d61fa72fa9a3dceade447eddc72347", func := "loop.example/ownsquares/laws.FnExactPictureIn", spec := "fnExactPictureIn", unfollowed := true, recurses := true, apart := false }
def FnExactPictureInSaid : Prop := fnExactPictureInRow.holds Try.pinned (OpenSpec.ofChange fnExactPictureInSpec)

/-- ITS FALSE NEIGHBOUR: 'it returns false'. Refute it at one input. -/
def fnExactPictureInWrong : ChangeSpec := { name := "fnExactPictureIn", fn := fun _ => fun
  | [d1, d2, d3] => { results := [.lit (.bool false)], args := [d1, d2, d3] }
  | _ => none }
def FnExactPictureInWrongFalsely : Prop := fnExactPictureInRow.holds Try.pinned (OpenSpec.ofChange fnExactPictureInWrong)

/- THE SECOND FORM. 'bulk': how many values and letters a reading holds, each counted each time it is reached (what is shared counts as often as it is met; a slice's spare places count too). A statement '..UptoSaid' is the law's where the arguments, and the package variables that the reading takes, are together of bulk at most 1048576: NARROWER than '..Said'. Prove '..Said' where nothing that the law and all that it calls make is longer than what came in: it says more and counts as full. Else prove '..UptoSaid'. A law counts once. -/
mutual
def uptoBulk {H : Type} : DataW H → Nat
  | .lit (.string bytes) => bytes.length + 1
  | .lit _ => 1
  | .nil => 1
  | .ptr d => uptoBulk d + 1
  | .slice elems spare => uptoBulkAll elems + uptoBulkAll spare + 1
  | .agg parts => uptoBulkAll parts + 1
  | .iface _ d => uptoBulk d + 1
  | .map entries => uptoBulkEntries entries + 1
  | .held _ => 1
def uptoBulkAll {H : Type} : List (DataW H) → Nat
  | [] => 0
  | d :: r => uptoBulk d + uptoBulkAll r
def uptoBulkEntries {H : Type} : List (Lit × DataW H) → Nat
  | [] => 0
  | x :: r => uptoBulkEntry x + uptoBulkEntries r
def uptoBulkEntry {H : Type} : Lit × DataW H → Nat
  | (.string bytes, d) => bytes.length + uptoBulk d + 1
  | (_, d) => uptoBulk d + 1
 end
def uptoSmall : (H : Type) → List (DataW H) → Bool := fun _ ds => decide (uptoBulkAll ds ≤ 1048576)
def OpenSpec.upto (s : _root_.Go.ChangeSpec) : _root_.Go.OpenSpec := { _root_.Go.OpenSpec.ofChange s with cond := some uptoSmall }

/-- 'laws.FnFullWords', WHERE WHAT IT READS IS OF BULK AT MOST 1048576: true; the input reads as it did. -/
def fnFullWordsUptoRow : OpenClaim := { program := "ytjmjfmgbfjmaaaa", sum := "ff2b5f5cb1fae3f824b7020cfaccede1d3d61fa72fa9a3dceade447eddc72347", func := "loop.example/ownsquares/laws.FnFullWords", spec := "fnFullWords", unfollowed := true, recurses := true, apart := false, narrowed := true }
def FnFullWordsUptoSaid : Prop := fnFullWordsUptoRow.holds Try.pinned (OpenSpec.upto fnFullWordsSpec)

/-- 'laws.FnAllWords', WHERE WHAT IT READS IS OF BULK AT MOST 1048576: true; the input reads as it did. -/
def fnAllWordsUptoRow : OpenClaim := { program := "ytjmjfmgbfjmaaaa", sum := "ff2b5f5cb1fae3f824b7020cfaccede1d3d61fa72fa9a3dceade447eddc72347", func := "loop.example/ownsquares/laws.FnAllWords", spec := "fnAllWords", unfollowed := true, recurses := true, apart := false, narrowed := true }
def FnAllWordsUptoSaid : Prop := fnAllWordsUptoRow.holds Try.pinned (OpenSpec.upto fnAllWordsSpec)

/-- 'laws.FnCountFull', WHERE WHAT IT READS IS OF BULK AT MOST 1048576: true; the input reads as it did. -/
def fnCountFullUptoRow : OpenClaim := { program := "ytjmjfmgbfjmaaaa", sum := "ff2b5f5cb1fae3f824b7020cfaccede1d3d61fa72fa9a3dceade447eddc72347", func := "loop.example/ownsquares/laws.FnCountFull", spec := "fnCountFull", recurses := true, apart := false, narrowed := true }
def FnCountFullUptoSaid : Prop := fnCountFullUptoRow.holds Try.pinned (OpenSpec.upto fnCountFullSpec)

/-- 'laws.FnFreeTable', WHERE WHAT IT READS IS OF BULK AT MOST 1048576: true; the input reads as it did. -/
def fnFreeTableUptoRow : OpenClaim := { program := "ytjmjfmgbfjmaaaa", sum := "ff2b5f5cb1fae3f824b7020cfaccede1d3d61fa72fa9a3dceade447eddc72347", func := "loop.example/ownsquares/laws.FnFreeTable", spec := "fnFreeTable", unfollowed := true, recurses := true, apart := false, narrowed := true }
def FnFreeTableUptoSaid : Prop := fnFreeTableUptoRow.holds Try.pinned (OpenSpec.upto fnFreeTableSpec)

/-- 'laws.FnPictureIn', WHERE WHAT IT READS IS OF BULK AT MOST 1048576: true; the input reads as it did. -/
def fnPictureInUptoRow : OpenClaim := { program := "ytjmjfmgbfjmaaaa", sum := "ff2b5f5cb1fae3f824b7020cfaccede1d3d61fa72fa9a3dceade447eddc72347", func := "loop.example/ownsquares/laws.FnPictureIn", spec := "fnPictureIn", unfollowed := true, recurses := true, apart := false, narrowed := true }
def FnPictureInUptoSaid : Prop := fnPictureInUptoRow.holds Try.pinned (OpenSpec.upto fnPictureInSpec)

/-- 'laws.FnExactFullWords', WHERE WHAT IT READS IS OF BULK AT MOST 1048576: true; the input reads as it did. -/
def fnExactFullWordsUptoRow : OpenClaim := { program := "ytjmjfmgbfjmaaaa", sum := "ff2b5f5cb1fae3f824b7020cfaccede1d3d61fa72fa9a3dceade447eddc72347", func := "loop.example/ownsquares/laws.FnExactFullWords", spec := "fnExactFullWords", unfollowed := true, recurses := true, apart := false, narrowed := true }
def FnExactFullWordsUptoSaid : Prop := fnExactFullWordsUptoRow.holds Try.pinned (OpenSpec.upto fnExactFullWordsSpec)

/-- 'laws.FnExactAllWords', WHERE WHAT IT READS IS OF BULK AT MOST 1048576: true; the input reads as it did. -/
def fnExactAllWordsUptoRow : OpenClaim := { program := "ytjmjfmgbfjmaaaa", sum := "ff2b5f5cb1fae3f824b7020cfaccede1d3d61fa72fa9a3dceade447eddc72347", func := "loop.example/ownsquares/laws.FnExactAllWords", spec := "fnExactAllWords", unfollowed := true, recurses := true, apart := false, narrowed := true }
def FnExactAllWordsUptoSaid : Prop := fnExactAllWordsUptoRow.holds Try.pinned (OpenSpec.upto fnExactAllWordsSpec)

/-- 'laws.FnExactCountFull', WHERE WHAT IT READS IS OF BULK AT MOST 1048576: true; the input reads as it did. -/
def fnExactCountFullUptoRow : OpenClaim := { program := "ytjmjfmgbfjmaaaa", sum := "ff2b5f5cb1fae3f824b7020cfaccede1d3d61fa72fa9a3dceade447eddc72347", func := "loop.example/ownsquares/laws.FnExactCountFull", spec := "fnExactCountFull", recurses := true, apart := false, narrowed := true }
def FnExactCountFullUptoSaid : Prop := fnExactCountFullUptoRow.holds Try.pinned (OpenSpec.upto fnExactCountFullSpec)

/-- 'laws.FnExactFreeTable', WHERE WHAT IT READS IS OF BULK AT MOST 1048576: true; the input reads as it did. -/
def fnExactFreeTableUptoRow : OpenClaim := { program := "ytjmjfmgbfjmaaaa", sum := "ff2b5f5cb1fae3f824b7020cfaccede1d3d61fa72fa9a3dceade447eddc72347", func := "loop.example/ownsquares/laws.FnExactFreeTable", spec := "fnExactFreeTable", unfollowed := true, recurses := true, apart := false, narrowed := true }
def FnExactFreeTableUptoSaid : Prop := fnExactFreeTableUptoRow.holds Try.pinned (OpenSpec.upto fnExactFreeTableSpec)

/-- 'laws.FnExactPictureIn', WHERE WHAT IT READS IS OF BULK AT MOST 1048576: true; the input reads as it did. -/
def fnExactPictureInUptoRow : OpenClaim := { program := "ytjmjfmgbfjmaaaa", sum := "ff2b5f5cb1fae3f824b7020cfaccede1d3d61fa72fa9a3dceade447eddc72347", func := "loop.example/ownsquares/laws.FnExactPictureIn", spec := "fnExactPictureIn", unfollowed := true, recurses := true, apart := false, narrowed := true }
def FnExactPictureInUptoSaid : Prop := fnExactPictureInUptoRow.holds Try.pinned (OpenSpec.upto fnExactPictureInSpec)

end Rows
end Go.Proofs.Ytjmjfmgbfjmaaaa
