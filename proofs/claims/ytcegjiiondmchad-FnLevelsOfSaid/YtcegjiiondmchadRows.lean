/-
  No cell of these rows narrows 'for every input' (looked for: loops, veiled, ifaces, maps, wideKeys, modest, calm, conditions, laid).
  DERIVED. THE GIVEN ROWS OF THIS SEAT. 10 by the template 'for every input the law returns true; each argument reads behind the call as it read before'; 0 by the template 'total and deterministic' (their statements: YtcegjiiondmchadTotals.lean).
  GIVEN WITH THE SEED: the statements are not yours to turn. If you find one false, say at which input.
  Laid BY PROGRAM, IN A SANDBOX (cutbox-rows.mjs): the forced cells as the released guide's own fill.sh prints them over the translation 012e9511f5611335… (all of the seat's roots in one cut). By AI agents, Wed Nov 11 2026. No macro, syntax, notation, axiom, sorry.
-/
import Derived.Test.YtcegjiiondmchadChecked
import GoSem.Claim
import GoSem.ClaimJoined
import GoSem.ClaimMapViews
import Derived.JoinedTies
import Derived.KernelRfl
namespace Go.Proofs.Ytcegjiiondmchad
/- THE CELL 'sum', in the pinned program and in every row, IS THE sha256 OF THE DUMP (.gsa) THAT YtcegjiiondmchadProg.lean LOADS. Nothing in Lean hashes anything: it is a label: what it is worth is what the hold of that sum in a sandbox is worth. -/
noncomputable def Try.pinned : Pinned := { name := "ytcegjiiondmchad", sum := "012e9511f5611335fa31d4278ebf3ca9d7961c49e548181fccfb4355bfd926f9", checked := Try.checked }
namespace Rows
def none {H : Type} : Left H := { results := [], args := [] }

/-- 'laws.FnLevelsOf': WHATEVER THE INPUT: true; the input reads as it did. -/
def fnLevelsOfSpec : ChangeSpec := { name := "fnLevelsOf", fn := fun _ => fun
  | [d] => { results := [.lit (.bool true)], args := [d] }
  | _ => none }
def fnLevelsOfRow : OpenClaim := { program := "ytcegjiiondmchad", sum := "012e9511f5611335fa31d4278ebf3ca9d7961c49e548181fccfb4355bfd926f9", func := "loop.example/ownsquares/laws.FnLevelsOf", spec := "fnLevelsOf", unfollowed := true, recurses := true, apart := false }
def FnLevelsOfSaid : Prop := fnLevelsOfRow.holds Try.pinned (OpenSpec.ofChange fnLevelsOfSpec)

/-- ITS FALSE NEIGHBOUR: 'it returns false'. Refute it at one input. -/
def fnLevelsOfWrong : ChangeSpec := { name := "fnLevelsOf", fn := fun _ => fun
  | [d] => { results := [.lit (.bool false)], args := [d] }
  | _ => none }
def FnLevelsOfWrongFalsely : Prop := fnLevelsOfRow.holds Try.pinned (OpenSpec.ofChange fnLevelsOfWrong)

/-- 'laws.FnCountLevels': WHATEVER THE INPUT: true; the input reads as it did. -/
def fnCountLevelsSpec : ChangeSpec := { name := "fnCountLevels", fn := fun _ => fun
  | [d] => { results := [.lit (.bool true)], args := [d] }
  | _ => none }
def fnCountLevelsRow : OpenClaim := { program := "ytcegjiiondmchad", sum := "012e9511f5611335fa31d4278ebf3ca9d7961c49e548181fccfb4355bfd926f9", func := "loop.example/ownsquares/laws.FnCountLevels", spec := "fnCountLevels", unfollowed := true, recurses := true, apart := false }
def FnCountLevelsSaid : Prop := fnCountLevelsRow.holds Try.pinned (OpenSpec.ofChange fnCountLevelsSpec)

/-- ITS FALSE NEIGHBOUR: 'it returns false'. Refute it at one input. -/
def fnCountLevelsWrong : ChangeSpec := { name := "fnCountLevels", fn := fun _ => fun
  | [d] => { results := [.lit (.bool false)], args := [d] }
  | _ => none }
def FnCountLevelsWrongFalsely : Prop := fnCountLevelsRow.holds Try.pinned (OpenSpec.ofChange fnCountLevelsWrong)

/-- 'laws.FnLevelTable': WHATEVER THE INPUT: true; the input reads as it did. -/
def fnLevelTableSpec : ChangeSpec := { name := "fnLevelTable", fn := fun _ => fun
  | [d] => { results := [.lit (.bool true)], args := [d] }
  | _ => none }
def fnLevelTableRow : OpenClaim := { program := "ytcegjiiondmchad", sum := "012e9511f5611335fa31d4278ebf3ca9d7961c49e548181fccfb4355bfd926f9", func := "loop.example/ownsquares/laws.FnLevelTable", spec := "fnLevelTable", unfollowed := true, recurses := true, apart := false }
def FnLevelTableSaid : Prop := fnLevelTableRow.holds Try.pinned (OpenSpec.ofChange fnLevelTableSpec)

/-- ITS FALSE NEIGHBOUR: 'it returns false'. Refute it at one input. -/
def fnLevelTableWrong : ChangeSpec := { name := "fnLevelTable", fn := fun _ => fun
  | [d] => { results := [.lit (.bool false)], args := [d] }
  | _ => none }
def FnLevelTableWrongFalsely : Prop := fnLevelTableRow.holds Try.pinned (OpenSpec.ofChange fnLevelTableWrong)

/-- 'laws.FnLevelSet': WHATEVER THE INPUT: true; the input reads as it did. -/
def fnLevelSetSpec : ChangeSpec := { name := "fnLevelSet", fn := fun _ => fun
  | [d] => { results := [.lit (.bool true)], args := [d] }
  | _ => none }
def fnLevelSetRow : OpenClaim := { program := "ytcegjiiondmchad", sum := "012e9511f5611335fa31d4278ebf3ca9d7961c49e548181fccfb4355bfd926f9", func := "loop.example/ownsquares/laws.FnLevelSet", spec := "fnLevelSet", unfollowed := true, recurses := true, apart := false }
def FnLevelSetSaid : Prop := fnLevelSetRow.holds Try.pinned (OpenSpec.ofChange fnLevelSetSpec)

/-- ITS FALSE NEIGHBOUR: 'it returns false'. Refute it at one input. -/
def fnLevelSetWrong : ChangeSpec := { name := "fnLevelSet", fn := fun _ => fun
  | [d] => { results := [.lit (.bool false)], args := [d] }
  | _ => none }
def FnLevelSetWrongFalsely : Prop := fnLevelSetRow.holds Try.pinned (OpenSpec.ofChange fnLevelSetWrong)

/-- 'laws.FnLevelPart': WHATEVER THE INPUT: true; the input reads as it did. -/
def fnLevelPartSpec : ChangeSpec := { name := "fnLevelPart", fn := fun _ => fun
  | [d] => { results := [.lit (.bool true)], args := [d] }
  | _ => none }
def fnLevelPartRow : OpenClaim := { program := "ytcegjiiondmchad", sum := "012e9511f5611335fa31d4278ebf3ca9d7961c49e548181fccfb4355bfd926f9", func := "loop.example/ownsquares/laws.FnLevelPart", spec := "fnLevelPart", unfollowed := true, recurses := true, apart := false }
def FnLevelPartSaid : Prop := fnLevelPartRow.holds Try.pinned (OpenSpec.ofChange fnLevelPartSpec)

/-- ITS FALSE NEIGHBOUR: 'it returns false'. Refute it at one input. -/
def fnLevelPartWrong : ChangeSpec := { name := "fnLevelPart", fn := fun _ => fun
  | [d] => { results := [.lit (.bool false)], args := [d] }
  | _ => none }
def FnLevelPartWrongFalsely : Prop := fnLevelPartRow.holds Try.pinned (OpenSpec.ofChange fnLevelPartWrong)

/-- 'laws.FnExactLevelsOf': WHATEVER THE INPUT: true; the input reads as it did. -/
def fnExactLevelsOfSpec : ChangeSpec := { name := "fnExactLevelsOf", fn := fun _ => fun
  | [d] => { results := [.lit (.bool true)], args := [d] }
  | _ => none }
def fnExactLevelsOfRow : OpenClaim := { program := "ytcegjiiondmchad", sum := "012e9511f5611335fa31d4278ebf3ca9d7961c49e548181fccfb4355bfd926f9", func := "loop.example/ownsquares/laws.FnExactLevelsOf", spec := "fnExactLevelsOf", unfollowed := true, recurses := true, apart := false }
def FnExactLevelsOfSaid : Prop := fnExactLevelsOfRow.holds Try.pinned (OpenSpec.ofChange fnExactLevelsOfSpec)

/-- ITS FALSE NEIGHBOUR: 'it returns false'. Refute it at one input. -/
def fnExactLevelsOfWrong : ChangeSpec := { name := "fnExactLevelsOf", fn := fun _ => fun
  | [d] => { results := [.lit (.bool false)], args := [d] }
  | _ => none }
def FnExactLevelsOfWrongFalsely : Prop := fnExactLevelsOfRow.holds Try.pinned (OpenSpec.ofChange fnExactLevelsOfWrong)

/-- 'laws.FnExactCountLevels': WHATEVER THE INPUT: true; the input reads as it did. -/
def fnExactCountLevelsSpec : ChangeSpec := { name := "fnExactCountLevels", fn := fun _ => fun
  | [d] => { results := [.lit (.bool true)], args := [d] }
  | _ => none }
def fnExactCountLevelsRow : OpenClaim := { program := "ytcegjiiondmchad", sum := "012e9511f5611335fa31d4278ebf3ca9d7961c49e548181fccfb4355bfd926f9", func := "loop.example/ownsquares/laws.FnExactCountLevels", spec := "fnExactCountLevels", unfollowed := true, recurses := true, apart := false }
def FnExactCountLevelsSaid : Prop := fnExactCountLevelsRow.holds Try.pinned (OpenSpec.ofChange fnExactCountLevelsSpec)

/-- ITS FALSE NEIGHBOUR: 'it returns false'. Refute it at one input. -/
def fnExactCountLevelsWrong : ChangeSpec := { name := "fnExactCountLevels", fn := fun _ => fun
  | [d] => { results := [.lit (.bool false)], args := [d] }
  | _ => none }
def FnExactCountLevelsWrongFalsely : Prop := fnExactCountLevelsRow.holds Try.pinned (OpenSpec.ofChange fnExactCountLevelsWrong)

/-- 'laws.FnExactLevelTable': WHATEVER THE INPUT: true; the input reads as it did. -/
def fnExactLevelTableSpec : ChangeSpec := { name := "fnExactLevelTable", fn := fun _ => fun
  | [d] => { results := [.lit (.bool true)], args := [d] }
  | _ => none }
def fnExactLevelTableRow : OpenClaim := { program := "ytcegjiiondmchad", sum := "012e9511f5611335fa31d4278ebf3ca9d7961c49e548181fccfb4355bfd926f9", func := "loop.example/ownsquares/laws.FnExactLevelTable", spec := "fnExactLevelTable", unfollowed := true, recurses := true, apart := false }
def FnExactLevelTableSaid : Prop := fnExactLevelTableRow.holds Try.pinned (OpenSpec.ofChange fnExactLevelTableSpec)

/-- ITS FALSE NEIGHBOUR: 'it returns false'. Refute it at one input. -/
def fnExactLevelTableWrong : ChangeSpec := { name := "fnExactLevelTable", fn := fun _ => fun
  | [d] => { results := [.lit (.bool false)], args := [d] }
  | _ => none }
def FnExactLevelTableWrongFalsely : Prop := fnExactLevelTableRow.holds Try.pinned (OpenSpec.ofChange fnExactLevelTableWrong)

/-- 'laws.FnExactLevelSet': WHATEVER THE INPUT: true; the input reads as it did. -/
def fnExactLevelSetSpec : ChangeSpec := { name := "fnExactLevelSet", fn := fun _ => fun
  | [d1, d2] => { results := [.lit (.bool true)], args := [d1, d2] }
  | _ => none }
def fnExactLevelSetRow : OpenClaim := { program := "ytcegjiiondmchad", sum := "012e9511f5611335fa31d4278ebf3ca9d7961c49e548181fccfb4355bfd926f9", func := "loop.example/ownsquares/laws.FnExactLevelSet", spec := "fnExactLevelSet", unfollowed := true, recurses := true, apart := false }
def FnExactLevelSetSaid : Prop := fnExactLevelSetRow.holds Try.pinned (OpenSpec.ofChange fnExactLevelSetSpec)

/-- ITS FALSE NEIGHBOUR: 'it returns false'. Refute it at one input. -/
def fnExactLevelSetWrong : ChangeSpec := { name := "fnExactLevelSet", fn := fun _ => fun
  | [d1, d2] => { results := [.lit (.bool false)], args := [d1, d2] }
  | _ => none }
def FnExactLevelSetWrongFalsely : Prop := fnExactLevelSetRow.holds Try.pinned (OpenSpec.ofChange fnExactLevelSetWrong)

/-- 'laws.FnExactLevelPart': WHATEVER THE INPUT: true; the input reads as it did. -/
def fnExactLevelPartSpec : ChangeSpec := { name := "fnExactLevelPart", fn := fun _ => fun
  | [d1, d2] => { results := [.lit (.bool true)], args := [d1, d2] }
  | _ => none }
def fnExactLevelPartRow : OpenClaim := { program := "ytcegjiiondmchad", sum := "012e9511f5611335fa31d4278ebf3ca9d7961c49e548181fccfb4355bfd926f9", func := "loop.example/ownsquares/laws.FnExactLevelPart", spec := "fnExactLevelPart", unfollowed := true, recurses := true, apart := false }
def FnExactLevelPartSaid : Prop := fnExactLevelPartRow.holds Try.pinned (OpenSpec.ofChange fnExactLevelPartSpec)

/-- ITS FALSE NEIGHBOUR: 'it returns false'. Refute it at one input. -/
def fnExactLevelPartWrong : ChangeSpec := { name := "fnExactLevelPart", fn := fun _ => fun
  | [d1, d2] => { results := [.lit (.bool false)], args := [d1, d2] }
  | _ => none }
def FnExactLevelPartWrongFalsely : Prop := fnExactLevelPartRow.holds Try.pinned (OpenSpec.ofChange fnExactLevelPartWrong)

/- THE SECOND FORM. 'bulk': how many values and letters a reading holds, each counted each time it is reached (what is shared counts as often as it is met; a slice's spare places count too). A statement '..UptoSaid' is the law's where the arguments, and the package variables that the reading takes, are together of bulk at most 1048576: NARROWER than '..Said'. Prove '..Said' where nothing that the law and all that it calls make is longer than what came in: it says more and counts as full. Else prove '..UptoSaid'. A law counts once. -/
mutual
def uptoBulk {H : Type} : DataW H → Nat
  | .lit (.string bytes) => bytes.length + 1
  | .lit _ => 1
  | .nil => 1
  | .ptr d => uptoBulk d + 1
  | .slice elems spare => uptoBulkAll elems + uptoBulkAll spare + 1
  | .agg parts => uptoBulkAll parts + 1
  | .iface _ d => uptoBulk d + 1
  | .map entries => uptoBulkEntries entries + 1
  | .held _ => 1
def uptoBulkAll {H : Type} : List (DataW H) → Nat
  | [] => 0
  | d :: r => uptoBulk d + uptoBulkAll r
def uptoBulkEntries {H : Type} : List (Lit × DataW H) → Nat
  | [] => 0
  | x :: r => uptoBulkEntry x + uptoBulkEntries r
def uptoBulkEntry {H : Type} : Lit × DataW H → Nat
  | (.string bytes, d) => bytes.length + uptoBulk d + 1
  | (_, d) => uptoBulk d + 1
 end
def uptoSmall : (H : Type) → List (DataW H) → Bool := fun _ ds => decide (uptoBulkAll ds ≤ 1048576)
def OpenSpec.upto (s : _root_.Go.ChangeSpec) : _root_.Go.OpenSpec := { _root_.Go.OpenSpec.ofChange s with cond := some uptoSmall }

/-- 'laws.FnLevelsOf', WHERE WHAT IT READS IS OF BULK AT MOST 1048576: true; the input reads as it did. -/
def fnLevelsOfUptoRow : OpenClaim := { program := "ytcegjiiondmchad", sum := "012e9511f5611335fa31d4278ebf3ca9d7961c49e548181fccfb4355bfd926f9", func := "loop.example/ownsquares/laws.FnLevelsOf", spec := "fnLevelsOf", unfollowed := true, recurses := true, apart := false, narrowed := true }
def FnLevelsOfUptoSaid : Prop := fnLevelsOfUptoRow.holds Try.pinned (OpenSpec.upto fnLevelsOfSpec)

/-- 'laws.FnCountLevels', WHERE WHAT IT READS IS OF BULK AT MOST 1048576: true; the input reads as it did. -/
def fnCountLevelsUptoRow : OpenClaim := { program := "ytcegjiiondmchad", sum := "012e9511f5611335fa31d4278ebf3ca9d7961c49e548181fccfb4355bfd926f9", func := "loop.example/ownsquares/laws.FnCountLevels", spec := "fnCountLevels", unfollowed := true, recurses := true, apart := false, narrowed := true }
def FnCountLevelsUptoSaid : Prop := fnCountLevelsUptoRow.holds Try.pinned (OpenSpec.upto fnCountLevelsSpec)

/-- 'laws.FnLevelTable', WHERE WHAT IT READS IS OF BULK AT MOST 1048576: true; the input reads as it did. -/
def fnLevelTableUptoRow : OpenClaim := { program := "ytcegjiiondmchad", sum := "012e9511f5611335fa31d4278ebf3ca9d7961c49e548181fccfb4355bfd926f9", func := "loop.example/ownsquares/laws.FnLevelTable", spec := "fnLevelTable", unfollowed := true, recurses := true, apart := false, narrowed := true }
def FnLevelTableUptoSaid : Prop := fnLevelTableUptoRow.holds Try.pinned (OpenSpec.upto fnLevelTableSpec)

/-- 'laws.FnLevelSet', WHERE WHAT IT READS IS OF BULK AT MOST 1048576: true; the input reads as it did. -/
def fnLevelSetUptoRow : OpenClaim := { program := "ytcegjiiondmchad", sum := "012e9511f5611335fa31d4278ebf3ca9d7961c49e548181fccfb4355bfd926f9", func := "loop.example/ownsquares/laws.FnLevelSet", spec := "fnLevelSet", unfollowed := true, recurses := true, apart := false, narrowed := true }
def FnLevelSetUptoSaid : Prop := fnLevelSetUptoRow.holds Try.pinned (OpenSpec.upto fnLevelSetSpec)

/-- 'laws.FnLevelPart', WHERE WHAT IT READS IS OF BULK AT MOST 1048576: true; the input reads as it did. -/
def fnLevelPartUptoRow : OpenClaim := { program := "ytcegjiiondmchad", sum := "012e9511f5611335fa31d4278ebf3ca9d7961c49e548181fccfb4355bfd926f9", func := "loop.example/ownsquares/laws.FnLevelPart", spec := "fnLevelPart", unfollowed := true, recurses := true, apart := false, narrowed := true }
def FnLevelPartUptoSaid : Prop := fnLevelPartUptoRow.holds Try.pinned (OpenSpec.upto fnLevelPartSpec)

/-- 'laws.FnExactLevelsOf', WHERE WHAT IT READS IS OF BULK AT MOST 1048576: true; the input reads as it did. -/
def fnExactLevelsOfUptoRow : OpenClaim := { program := "ytcegjiiondmchad", sum := "012e9511f5611335fa31d4278ebf3ca9d7961c49e548181fccfb4355bfd926f9", func := "loop.example/ownsquares/laws.FnExactLevelsOf", spec := "fnExactLevelsOf", unfollowed := true, recurses := true, apart := false, narrowed := true }
def FnExactLevelsOfUptoSaid : Prop := fnExactLevelsOfUptoRow.holds Try.pinned (OpenSpec.upto fnExactLevelsOfSpec)

/-- 'laws.FnExactCountLevels', WHERE WHAT IT READS IS OF BULK AT MOST 1048576: true; the input reads as it did. -/
def fnExactCountLevelsUptoRow : OpenClaim := { program := "ytcegjiiondmchad", sum := "012e9511f5611335fa31d4278ebf3ca9d7961c49e548181fccfb4355bfd926f9", func := "loop.example/ownsquares/laws.FnExactCountLevels", spec := "fnExactCountLevels", unfollowed := true, recurses := true, apart := false, narrowed := true }
def FnExactCountLevelsUptoSaid : Prop := fnExactCountLevelsUptoRow.holds Try.pinned (OpenSpec.upto fnExactCountLevelsSpec)

/-- 'laws.FnExactLevelTable', WHERE WHAT IT READS IS OF BULK AT MOST 1048576: true; the input reads as it did. -/
def fnExactLevelTableUptoRow : OpenClaim := { program := "ytcegjiiondmchad", sum := "012e9511f5611335fa31d4278ebf3ca9d7961c49e548181fccfb4355bfd926f9", func := "loop.example/ownsquares/laws.FnExactLevelTable", spec := "fnExactLevelTable", unfollowed := true, recurses := true, apart := false, narrowed := true }
def FnExactLevelTableUptoSaid : Prop := fnExactLevelTableUptoRow.holds Try.pinned (OpenSpec.upto fnExactLevelTableSpec)

/-- 'laws.FnExactLevelSet', WHERE WHAT IT READS IS OF BULK AT MOST 1048576: true; the input reads as it did. -/
def fnExactLevelSetUptoRow : OpenClaim := { program := "ytcegjiiondmchad", sum := "012e9511f5611335fa31d4278ebf3ca9d7961c49e548181fccfb4355bfd926f9", func := "loop.example/ownsquares/laws.FnExactLevelSet", spec := "fnExactLevelSet", unfollowed := true, recurses := true, apart := false, narrowed := true }
def FnExactLevelSetUptoSaid : Prop := fnExactLevelSetUptoRow.holds Try.pinned (OpenSpec.upto fnExactLevelSetSpec)

/-- 'laws.FnExactLevelPart', WHERE WHAT IT READS IS OF BULK AT MOST 1048576: true; the input reads as it did. -/
def fnExactLevelPartUptoRow : OpenClaim := { program := "ytcegjiiondmchad", sum := "012e9511f5611335fa31d4278ebf3ca9d7961c49e548181fccfb4355bfd926f9", func := "loop.example/ownsquares/laws.FnExactLevelPart", spec := "fnExactLevelPart", unfollowed := true, recurses := true, apart := false, narrowed := true }
def FnExactLevelPartUptoSaid : Prop := fnExactLevelPartUptoRow.holds Try.pinned (OpenSpec.upto fnExactLevelPartSpec)

end Rows
end Go.Proofs.Ytcegjiiondmchad
