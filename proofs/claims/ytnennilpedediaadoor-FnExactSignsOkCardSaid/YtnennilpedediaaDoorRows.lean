/-
  NARROWER THAN 'FOR EVERY INPUT', by the rows' own cells (each row's printed sentence says how): FnSignsOk: laid · FnThenOf: laid · FnSupportOf: laid · FnExactSignsOk: laid · FnExactThenOf: laid · FnExactSupportOf: laid.
  DERIVED. THE GIVEN ROWS OF THIS SEAT. 6 by the template 'for every input the law returns true; each argument reads behind the call as it read before'; 0 by the template 'total and deterministic' (their statements: YtnennilpedediaaDoorTotals.lean).
  GIVEN WITH THE SEED: the statements are not yours to turn. If you find one false, say at which input.
  Laid BY PROGRAM, IN A SANDBOX (cutbox-rows.mjs): the forced cells as the released guide's own fill.sh prints them over the translation 33c499b662523b09… (all of the seat's roots in one cut). By AI agents, Wed Nov 11 2026. No macro, syntax, notation, axiom, sorry.
-/
import Derived.Test.YtnennilpedediaaDoorChecked
import GoSem.PinnedTables
import GoSem.Claim
import GoSem.ClaimJoined
import GoSem.ClaimMapViews
import Derived.JoinedTies
import Derived.KernelRfl
namespace Go.Proofs.YtnennilpedediaaDoor
/- THE CELL 'sum', in the pinned program and in every row, IS THE sha256 OF THE DUMP (.gsa) THAT YtnennilpedediaaDoorProg.lean LOADS. Nothing in Lean hashes anything: it is a label: what it is worth is what the hold of that sum in a sandbox is worth. -/
noncomputable def Tryd.pinned : Pinned := { name := "ytnennilpedediaadoor", sum := "33c499b662523b09240ce993f493020a896bf9c820cbd549145db2e5baaea7c8", checked := Tryd.checked }
namespace Rows
def none {H : Type} : Left H := { results := [], args := [] }

/- WHAT THE LISTED PACKAGE-LEVEL VARIABLES READ AS WHEN THE CALL BEGINS. Each datum BY PROGRAM (the guide's laid-datum.mjs) off the statement by which the dump's own 'gosem.cut.vars' lays the variable. In a bare row this is a premise. The card (YtnennilpedediaaDoorCards.lean) ties it to the program's text. -/
def laid_unicode_utf8_acceptRanges {H : Type} : DataW H := .agg [.agg [.lit (.int .u8 128), .lit (.int .u8 191)], .agg [.lit (.int .u8 160), .lit (.int .u8 191)], .agg [.lit (.int .u8 128), .lit (.int .u8 159)], .agg [.lit (.int .u8 144), .lit (.int .u8 191)], .agg [.lit (.int .u8 128), .lit (.int .u8 143)], .agg [.lit (.int .u8 0), .lit (.int .u8 0)], .agg [.lit (.int .u8 0), .lit (.int .u8 0)], .agg [.lit (.int .u8 0), .lit (.int .u8 0)], .agg [.lit (.int .u8 0), .lit (.int .u8 0)], .agg [.lit (.int .u8 0), .lit (.int .u8 0)], .agg [.lit (.int .u8 0), .lit (.int .u8 0)], .agg [.lit (.int .u8 0), .lit (.int .u8 0)], .agg [.lit (.int .u8 0), .lit (.int .u8 0)], .agg [.lit (.int .u8 0), .lit (.int .u8 0)], .agg [.lit (.int .u8 0), .lit (.int .u8 0)], .agg [.lit (.int .u8 0), .lit (.int .u8 0)]]
/-- One of Go's own tables, pinned by name: the form's constant. -/
def laid_unicode_utf8_first : DataW Unit := Go.Pinned.utf8First

/-- 'laws.FnSignsOk': WHATEVER THE INPUT: true; the input reads as it did. -/
def fnSignsOkSpec : ChangeSpec := { name := "fnSignsOk", fn := fun _ => fun
  | [d] => { results := [.lit (.bool true)], args := [d] }
  | _ => none }
def fnSignsOkRow : OpenClaim := { program := "ytnennilpedediaadoor", sum := "33c499b662523b09240ce993f493020a896bf9c820cbd549145db2e5baaea7c8", func := "loop.example/ownsquares/laws.FnSignsOk", spec := "fnSignsOk", inPlace := ["internal/bytealg.IndexByteString", "internal/bytealg.IndexString"], named := ["unicode/utf8.first", "unicode/utf8.acceptRanges", "internal/bytealg.MaxLen"], apart := false, laid := [("unicode/utf8.acceptRanges", laid_unicode_utf8_acceptRanges), ("unicode/utf8.first", laid_unicode_utf8_first)] }
def FnSignsOkSaid : Prop := fnSignsOkRow.holds Tryd.pinned (OpenSpec.ofChange fnSignsOkSpec)

/-- ITS FALSE NEIGHBOUR: 'it returns false'. Refute it at one input. -/
def fnSignsOkWrong : ChangeSpec := { name := "fnSignsOk", fn := fun _ => fun
  | [d] => { results := [.lit (.bool false)], args := [d] }
  | _ => none }
def FnSignsOkWrongFalsely : Prop := fnSignsOkRow.holds Tryd.pinned (OpenSpec.ofChange fnSignsOkWrong)

/-- 'laws.FnThenOf': WHATEVER THE INPUT: true; the input reads as it did. -/
def fnThenOfSpec : ChangeSpec := { name := "fnThenOf", fn := fun _ => fun
  | [d] => { results := [.lit (.bool true)], args := [d] }
  | _ => none }
def fnThenOfRow : OpenClaim := { program := "ytnennilpedediaadoor", sum := "33c499b662523b09240ce993f493020a896bf9c820cbd549145db2e5baaea7c8", func := "loop.example/ownsquares/laws.FnThenOf", spec := "fnThenOf", inPlace := ["internal/bytealg.IndexByteString", "internal/bytealg.IndexString"], named := ["unicode/utf8.first", "unicode/utf8.acceptRanges", "internal/bytealg.MaxLen"], apart := false, laid := [("unicode/utf8.acceptRanges", laid_unicode_utf8_acceptRanges), ("unicode/utf8.first", laid_unicode_utf8_first)] }
def FnThenOfSaid : Prop := fnThenOfRow.holds Tryd.pinned (OpenSpec.ofChange fnThenOfSpec)

/-- ITS FALSE NEIGHBOUR: 'it returns false'. Refute it at one input. -/
def fnThenOfWrong : ChangeSpec := { name := "fnThenOf", fn := fun _ => fun
  | [d] => { results := [.lit (.bool false)], args := [d] }
  | _ => none }
def FnThenOfWrongFalsely : Prop := fnThenOfRow.holds Tryd.pinned (OpenSpec.ofChange fnThenOfWrong)

/-- 'laws.FnSupportOf': WHATEVER THE INPUT: true; the input reads as it did. -/
def fnSupportOfSpec : ChangeSpec := { name := "fnSupportOf", fn := fun _ => fun
  | [d] => { results := [.lit (.bool true)], args := [d] }
  | _ => none }
def fnSupportOfRow : OpenClaim := { program := "ytnennilpedediaadoor", sum := "33c499b662523b09240ce993f493020a896bf9c820cbd549145db2e5baaea7c8", func := "loop.example/ownsquares/laws.FnSupportOf", spec := "fnSupportOf", inPlace := ["internal/bytealg.IndexByteString", "internal/bytealg.IndexString"], named := ["unicode/utf8.first", "unicode/utf8.acceptRanges", "internal/bytealg.MaxLen"], apart := false, laid := [("unicode/utf8.acceptRanges", laid_unicode_utf8_acceptRanges), ("unicode/utf8.first", laid_unicode_utf8_first)] }
def FnSupportOfSaid : Prop := fnSupportOfRow.holds Tryd.pinned (OpenSpec.ofChange fnSupportOfSpec)

/-- ITS FALSE NEIGHBOUR: 'it returns false'. Refute it at one input. -/
def fnSupportOfWrong : ChangeSpec := { name := "fnSupportOf", fn := fun _ => fun
  | [d] => { results := [.lit (.bool false)], args := [d] }
  | _ => none }
def FnSupportOfWrongFalsely : Prop := fnSupportOfRow.holds Tryd.pinned (OpenSpec.ofChange fnSupportOfWrong)

/-- 'laws.FnExactSignsOk': WHATEVER THE INPUT: true; the input reads as it did. -/
def fnExactSignsOkSpec : ChangeSpec := { name := "fnExactSignsOk", fn := fun _ => fun
  | [d] => { results := [.lit (.bool true)], args := [d] }
  | _ => none }
def fnExactSignsOkRow : OpenClaim := { program := "ytnennilpedediaadoor", sum := "33c499b662523b09240ce993f493020a896bf9c820cbd549145db2e5baaea7c8", func := "loop.example/ownsquares/laws.FnExactSignsOk", spec := "fnExactSignsOk", inPlace := ["internal/bytealg.IndexByteString", "internal/bytealg.IndexString"], named := ["unicode/utf8.first", "unicode/utf8.acceptRanges", "internal/bytealg.MaxLen"], apart := false, laid := [("unicode/utf8.acceptRanges", laid_unicode_utf8_acceptRanges), ("unicode/utf8.first", laid_unicode_utf8_first)] }
def FnExactSignsOkSaid : Prop := fnExactSignsOkRow.holds Tryd.pinned (OpenSpec.ofChange fnExactSignsOkSpec)

/-- ITS FALSE NEIGHBOUR: 'it returns false'. Refute it at one input. -/
def fnExactSignsOkWrong : ChangeSpec := { name := "fnExactSignsOk", fn := fun _ => fun
  | [d] => { results := [.lit (.bool false)], args := [d] }
  | _ => none }
def FnExactSignsOkWrongFalsely : Prop := fnExactSignsOkRow.holds Tryd.pinned (OpenSpec.ofChange fnExactSignsOkWrong)

/-- 'laws.FnExactThenOf': WHATEVER THE INPUT: true; the input reads as it did. -/
def fnExactThenOfSpec : ChangeSpec := { name := "fnExactThenOf", fn := fun _ => fun
  | [d1, d2] => { results := [.lit (.bool true)], args := [d1, d2] }
  | _ => none }
def fnExactThenOfRow : OpenClaim := { program := "ytnennilpedediaadoor", sum := "33c499b662523b09240ce993f493020a896bf9c820cbd549145db2e5baaea7c8", func := "loop.example/ownsquares/laws.FnExactThenOf", spec := "fnExactThenOf", inPlace := ["internal/bytealg.IndexByteString", "internal/bytealg.IndexString"], named := ["unicode/utf8.first", "unicode/utf8.acceptRanges", "internal/bytealg.MaxLen"], apart := false, laid := [("unicode/utf8.acceptRanges", laid_unicode_utf8_acceptRanges), ("unicode/utf8.first", laid_unicode_utf8_first)] }
def FnExactThenOfSaid : Prop := fnExactThenOfRow.holds Tryd.pinned (OpenSpec.ofChange fnExactThenOfSpec)

/-- ITS FALSE NEIGHBOUR: 'it returns false'. Refute it at one input. -/
def fnExactThenOfWrong : ChangeSpec := { name := "fnExactThenOf", fn := fun _ => fun
  | [d1, d2] => { results := [.lit (.bool false)], args := [d1, d2] }
  | _ => none }
def FnExactThenOfWrongFalsely : Prop := fnExactThenOfRow.holds Tryd.pinned (OpenSpec.ofChange fnExactThenOfWrong)

/-- 'laws.FnExactSupportOf': WHATEVER THE INPUT: true; the input reads as it did. -/
def fnExactSupportOfSpec : ChangeSpec := { name := "fnExactSupportOf", fn := fun _ => fun
  | [d] => { results := [.lit (.bool true)], args := [d] }
  | _ => none }
def fnExactSupportOfRow : OpenClaim := { program := "ytnennilpedediaadoor", sum := "33c499b662523b09240ce993f493020a896bf9c820cbd549145db2e5baaea7c8", func := "loop.example/ownsquares/laws.FnExactSupportOf", spec := "fnExactSupportOf", inPlace := ["internal/bytealg.IndexByteString", "internal/bytealg.IndexString"], named := ["unicode/utf8.first", "unicode/utf8.acceptRanges", "internal/bytealg.MaxLen"], apart := false, laid := [("unicode/utf8.acceptRanges", laid_unicode_utf8_acceptRanges), ("unicode/utf8.first", laid_unicode_utf8_first)] }
def FnExactSupportOfSaid : Prop := fnExactSupportOfRow.holds Tryd.pinned (OpenSpec.ofChange fnExactSupportOfSpec)

/-- ITS FALSE NEIGHBOUR: 'it returns false'. Refute it at one input. -/
def fnExactSupportOfWrong : ChangeSpec := { name := "fnExactSupportOf", fn := fun _ => fun
  | [d] => { results := [.lit (.bool false)], args := [d] }
  | _ => none }
def FnExactSupportOfWrongFalsely : Prop := fnExactSupportOfRow.holds Tryd.pinned (OpenSpec.ofChange fnExactSupportOfWrong)

/- THE SECOND FORM. 'bulk': how many values and letters a reading holds, each counted each time it is reached (what is shared counts as often as it is met; a slice's spare places count too). A statement '..UptoSaid' is the law's where the arguments, and the package variables that the reading takes, are together of bulk at most 1048576: NARROWER than '..Said'. Prove '..Said' where nothing that the law and all that it calls make is longer than what came in: it says more and counts as full. Else prove '..UptoSaid'. A law counts once. -/
mutual
def uptoBulk {H : Type} : DataW H → Nat
  | .lit (.string bytes) => bytes.length + 1
  | .lit _ => 1
  | .nil => 1
  | .ptr d => uptoBulk d + 1
  | .slice elems spare => uptoBulkAll elems + uptoBulkAll spare + 1
  | .agg parts => uptoBulkAll parts + 1
  | .iface _ d => uptoBulk d + 1
  | .map entries => uptoBulkEntries entries + 1
  | .held _ => 1
def uptoBulkAll {H : Type} : List (DataW H) → Nat
  | [] => 0
  | d :: r => uptoBulk d + uptoBulkAll r
def uptoBulkEntries {H : Type} : List (Lit × DataW H) → Nat
  | [] => 0
  | x :: r => uptoBulkEntry x + uptoBulkEntries r
def uptoBulkEntry {H : Type} : Lit × DataW H → Nat
  | (.string bytes, d) => bytes.length + uptoBulk d + 1
  | (_, d) => uptoBulk d + 1
 end
def uptoSmall : (H : Type) → List (DataW H) → Bool := fun _ ds => decide (uptoBulkAll ds ≤ 1048576)
def OpenSpec.upto (s : _root_.Go.ChangeSpec) : _root_.Go.OpenSpec := { _root_.Go.OpenSpec.ofChange s with cond := some uptoSmall }

/-- 'laws.FnSignsOk', WHERE WHAT IT READS IS OF BULK AT MOST 1048576: true; the input reads as it did. -/
def fnSignsOkUptoRow : OpenClaim := { program := "ytnennilpedediaadoor", sum := "33c499b662523b09240ce993f493020a896bf9c820cbd549145db2e5baaea7c8", func := "loop.example/ownsquares/laws.FnSignsOk", spec := "fnSignsOk", inPlace := ["internal/bytealg.IndexByteString", "internal/bytealg.IndexString"], named := ["unicode/utf8.first", "unicode/utf8.acceptRanges", "internal/bytealg.MaxLen"], apart := false, laid := [("unicode/utf8.acceptRanges", laid_unicode_utf8_acceptRanges), ("unicode/utf8.first", laid_unicode_utf8_first)], narrowed := true }
def FnSignsOkUptoSaid : Prop := fnSignsOkUptoRow.holds Tryd.pinned (OpenSpec.upto fnSignsOkSpec)

/-- 'laws.FnThenOf', WHERE WHAT IT READS IS OF BULK AT MOST 1048576: true; the input reads as it did. -/
def fnThenOfUptoRow : OpenClaim := { program := "ytnennilpedediaadoor", sum := "33c499b662523b09240ce993f493020a896bf9c820cbd549145db2e5baaea7c8", func := "loop.example/ownsquares/laws.FnThenOf", spec := "fnThenOf", inPlace := ["internal/bytealg.IndexByteString", "internal/bytealg.IndexString"], named := ["unicode/utf8.first", "unicode/utf8.acceptRanges", "internal/bytealg.MaxLen"], apart := false, laid := [("unicode/utf8.acceptRanges", laid_unicode_utf8_acceptRanges), ("unicode/utf8.first", laid_unicode_utf8_first)], narrowed := true }
def FnThenOfUptoSaid : Prop := fnThenOfUptoRow.holds Tryd.pinned (OpenSpec.upto fnThenOfSpec)

/-- 'laws.FnSupportOf', WHERE WHAT IT READS IS OF BULK AT MOST 1048576: true; the input reads as it did. -/
def fnSupportOfUptoRow : OpenClaim := { program := "ytnennilpedediaadoor", sum := "33c499b662523b09240ce993f493020a896bf9c820cbd549145db2e5baaea7c8", func := "loop.example/ownsquares/laws.FnSupportOf", spec := "fnSupportOf", inPlace := ["internal/bytealg.IndexByteString", "internal/bytealg.IndexString"], named := ["unicode/utf8.first", "unicode/utf8.acceptRanges", "internal/bytealg.MaxLen"], apart := false, laid := [("unicode/utf8.acceptRanges", laid_unicode_utf8_acceptRanges), ("unicode/utf8.first", laid_unicode_utf8_first)], narrowed := true }
def FnSupportOfUptoSaid : Prop := fnSupportOfUptoRow.holds Tryd.pinned (OpenSpec.upto fnSupportOfSpec)

/-- 'laws.FnExactSignsOk', WHERE WHAT IT READS IS OF BULK AT MOST 1048576: true; the input reads as it did. -/
def fnExactSignsOkUptoRow : OpenClaim := { program := "ytnennilpedediaadoor", sum := "33c499b662523b09240ce993f493020a896bf9c820cbd549145db2e5baaea7c8", func := "loop.example/ownsquares/laws.FnExactSignsOk", spec := "fnExactSignsOk", inPlace := ["internal/bytealg.IndexByteString", "internal/bytealg.IndexString"], named := ["unicode/utf8.first", "unicode/utf8.acceptRanges", "internal/bytealg.MaxLen"], apart := false, laid := [("unicode/utf8.acceptRanges", laid_unicode_utf8_acceptRanges), ("unicode/utf8.first", laid_unicode_utf8_first)], narrowed := true }
def FnExactSignsOkUptoSaid : Prop := fnExactSignsOkUptoRow.holds Tryd.pinned (OpenSpec.upto fnExactSignsOkSpec)

/-- 'laws.FnExactThenOf', WHERE WHAT IT READS IS OF BULK AT MOST 1048576: true; the input reads as it did. -/
def fnExactThenOfUptoRow : OpenClaim := { program := "ytnennilpedediaadoor", sum := "33c499b662523b09240ce993f493020a896bf9c820cbd549145db2e5baaea7c8", func := "loop.example/ownsquares/laws.FnExactThenOf", spec := "fnExactThenOf", inPlace := ["internal/bytealg.IndexByteString", "internal/bytealg.IndexString"], named := ["unicode/utf8.first", "unicode/utf8.acceptRanges", "internal/bytealg.MaxLen"], apart := false, laid := [("unicode/utf8.acceptRanges", laid_unicode_utf8_acceptRanges), ("unicode/utf8.first", laid_unicode_utf8_first)], narrowed := true }
def FnExactThenOfUptoSaid : Prop := fnExactThenOfUptoRow.holds Tryd.pinned (OpenSpec.upto fnExactThenOfSpec)

/-- 'laws.FnExactSupportOf', WHERE WHAT IT READS IS OF BULK AT MOST 1048576: true; the input reads as it did. -/
def fnExactSupportOfUptoRow : OpenClaim := { program := "ytnennilpedediaadoor", sum := "33c499b662523b09240ce993f493020a896bf9c820cbd549145db2e5baaea7c8", func := "loop.example/ownsquares/laws.FnExactSupportOf", spec := "fnExactSupportOf", inPlace := ["internal/bytealg.IndexByteString", "internal/bytealg.IndexString"], named := ["unicode/utf8.first", "unicode/utf8.acceptRanges", "internal/bytealg.MaxLen"], apart := false, laid := [("unicode/utf8.acceptRanges", laid_unicode_utf8_acceptRanges), ("unicode/utf8.first", laid_unicode_utf8_first)], narrowed := true }
def FnExactSupportOfUptoSaid : Prop := fnExactSupportOfUptoRow.holds Tryd.pinned (OpenSpec.upto fnExactSupportOfSpec)

end Rows
end Go.Proofs.YtnennilpedediaaDoor
