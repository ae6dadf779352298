/-
  No cell of these rows narrows 'for every input' (looked for: loops, veiled, ifaces, maps, wideKeys, modest, calm, conditions, laid).
  DERIVED. THE GIVEN ROWS OF THIS SEAT. 8 by the template 'for every input the law returns true; each argument reads behind the call as it read before'; 0 by the template 'total and deterministic' (their statements: YtmjokeibflbeoaaTotals.lean).
  GIVEN WITH THE SEED: the statements are not yours to turn. If you find one false, say at which input.
  Laid BY PROGRAM, IN A SANDBOX (cutbox-rows.mjs): the forced cells as the released guide's own fill.sh prints them over the translation 38f129fc32d41f4c… (all of the seat's roots in one cut). By AI agents, Wed Nov 11 2026. No macro, syntax, notation, axiom, sorry.
-/
import Derived.Test.YtmjokeibflbeoaaChecked
import GoSem.Claim
import GoSem.ClaimJoined
import GoSem.ClaimMapViews
import Derived.JoinedTies
import Derived.KernelRfl
namespace Go.Proofs.Ytmjokeibflbeoaa
/- THE CELL 'sum', in the pinned program and in every row, IS THE sha256 OF THE DUMP (.gsa) THAT YtmjokeibflbeoaaProg.lean LOADS. Nothing in Lean hashes anything: it is a label: what it is worth is what the hold of that sum in a sandbox is worth. -/
noncomputable def Try.pinned : Pinned := { name := "ytmjokeibflbeoaa", sum := "38f129fc32d41f4c0763fb007760e11ae12fcdb0ce5a2b56280e87fcb22ad12b", checked := Try.checked }
namespace Rows
def none {H : Type} : Left H := { results := [], args := [] }

/-- 'laws.FnSameWords': WHATEVER THE INPUT: true; the input reads as it did. -/
def fnSameWordsSpec : ChangeSpec := { name := "fnSameWords", fn := fun _ => fun
  | [d1, d2] => { results := [.lit (.bool true)], args := [d1, d2] }
  | _ => none }
def fnSameWordsRow : OpenClaim := { program := "ytmjokeibflbeoaa", sum := "38f129fc32d41f4c0763fb007760e11ae12fcdb0ce5a2b56280e87fcb22ad12b", func := "loop.example/ownsquares/laws.FnSameWords", spec := "fnSameWords", recurses := true, plainKeys := false, apart := false }
def FnSameWordsSaid : Prop := fnSameWordsRow.holds Try.pinned (OpenSpec.ofChange fnSameWordsSpec)

/-- ITS FALSE NEIGHBOUR: 'it returns false'. Refute it at one input. -/
def fnSameWordsWrong : ChangeSpec := { name := "fnSameWords", fn := fun _ => fun
  | [d1, d2] => { results := [.lit (.bool false)], args := [d1, d2] }
  | _ => none }
def FnSameWordsWrongFalsely : Prop := fnSameWordsRow.holds Try.pinned (OpenSpec.ofChange fnSameWordsWrong)

/-- 'laws.FnMadeOf': WHATEVER THE INPUT: true; the input reads as it did. -/
def fnMadeOfSpec : ChangeSpec := { name := "fnMadeOf", fn := fun _ => fun
  | [d] => { results := [.lit (.bool true)], args := [d] }
  | _ => none }
def fnMadeOfRow : OpenClaim := { program := "ytmjokeibflbeoaa", sum := "38f129fc32d41f4c0763fb007760e11ae12fcdb0ce5a2b56280e87fcb22ad12b", func := "loop.example/ownsquares/laws.FnMadeOf", spec := "fnMadeOf", recurses := true, plainKeys := false, apart := false }
def FnMadeOfSaid : Prop := fnMadeOfRow.holds Try.pinned (OpenSpec.ofChange fnMadeOfSpec)

/-- ITS FALSE NEIGHBOUR: 'it returns false'. Refute it at one input. -/
def fnMadeOfWrong : ChangeSpec := { name := "fnMadeOf", fn := fun _ => fun
  | [d] => { results := [.lit (.bool false)], args := [d] }
  | _ => none }
def FnMadeOfWrongFalsely : Prop := fnMadeOfRow.holds Try.pinned (OpenSpec.ofChange fnMadeOfWrong)

/-- 'laws.FnJoinedOf': WHATEVER THE INPUT: true; the input reads as it did. -/
def fnJoinedOfSpec : ChangeSpec := { name := "fnJoinedOf", fn := fun _ => fun
  | [d1, d2] => { results := [.lit (.bool true)], args := [d1, d2] }
  | _ => none }
def fnJoinedOfRow : OpenClaim := { program := "ytmjokeibflbeoaa", sum := "38f129fc32d41f4c0763fb007760e11ae12fcdb0ce5a2b56280e87fcb22ad12b", func := "loop.example/ownsquares/laws.FnJoinedOf", spec := "fnJoinedOf", recurses := true, plainKeys := false, apart := false }
def FnJoinedOfSaid : Prop := fnJoinedOfRow.holds Try.pinned (OpenSpec.ofChange fnJoinedOfSpec)

/-- ITS FALSE NEIGHBOUR: 'it returns false'. Refute it at one input. -/
def fnJoinedOfWrong : ChangeSpec := { name := "fnJoinedOf", fn := fun _ => fun
  | [d1, d2] => { results := [.lit (.bool false)], args := [d1, d2] }
  | _ => none }
def FnJoinedOfWrongFalsely : Prop := fnJoinedOfRow.holds Try.pinned (OpenSpec.ofChange fnJoinedOfWrong)

/-- 'laws.FnApartIn': WHATEVER THE INPUT: true; the input reads as it did. -/
def fnApartInSpec : ChangeSpec := { name := "fnApartIn", fn := fun _ => fun
  | [d] => { results := [.lit (.bool true)], args := [d] }
  | _ => none }
def fnApartInRow : OpenClaim := { program := "ytmjokeibflbeoaa", sum := "38f129fc32d41f4c0763fb007760e11ae12fcdb0ce5a2b56280e87fcb22ad12b", func := "loop.example/ownsquares/laws.FnApartIn", spec := "fnApartIn", unfollowed := true, recurses := true, plainKeys := false, apart := false }
def FnApartInSaid : Prop := fnApartInRow.holds Try.pinned (OpenSpec.ofChange fnApartInSpec)

/-- ITS FALSE NEIGHBOUR: 'it returns false'. Refute it at one input. -/
def fnApartInWrong : ChangeSpec := { name := "fnApartIn", fn := fun _ => fun
  | [d] => { results := [.lit (.bool false)], args := [d] }
  | _ => none }
def FnApartInWrongFalsely : Prop := fnApartInRow.holds Try.pinned (OpenSpec.ofChange fnApartInWrong)

/-- 'laws.FnExactSameWords': WHATEVER THE INPUT: true; the input reads as it did. -/
def fnExactSameWordsSpec : ChangeSpec := { name := "fnExactSameWords", fn := fun _ => fun
  | [d1, d2] => { results := [.lit (.bool true)], args := [d1, d2] }
  | _ => none }
def fnExactSameWordsRow : OpenClaim := { program := "ytmjokeibflbeoaa", sum := "38f129fc32d41f4c0763fb007760e11ae12fcdb0ce5a2b56280e87fcb22ad12b", func := "loop.example/ownsquares/laws.FnExactSameWords", spec := "fnExactSameWords", recurses := true, plainKeys := false, apart := false }
def FnExactSameWordsSaid : Prop := fnExactSameWordsRow.holds Try.pinned (OpenSpec.ofChange fnExactSameWordsSpec)

/-- ITS FALSE NEIGHBOUR: 'it returns false'. Refute it at one input. -/
def fnExactSameWordsWrong : ChangeSpec := { name := "fnExactSameWords", fn := fun _ => fun
  | [d1, d2] => { results := [.lit (.bool false)], args := [d1, d2] }
  | _ => none }
def FnExactSameWordsWrongFalsely : Prop := fnExactSameWordsRow.holds Try.pinned (OpenSpec.ofChange fnExactSameWordsWrong)

/-- 'laws.FnExactMadeOf': WHATEVER THE INPUT: true; the input reads as it did. -/
def fnExactMadeOfSpec : ChangeSpec := { name := "fnExactMadeOf", fn := fun _ => fun
  | [d] => { results := [.lit (.bool true)], args := [d] }
  | _ => none }
def fnExactMadeOfRow : OpenClaim := { program := "ytmjokeibflbeoaa", sum := "38f129fc32d41f4c0763fb007760e11ae12fcdb0ce5a2b56280e87fcb22ad12b", func := "loop.example/ownsquares/laws.FnExactMadeOf", spec := "fnExactMadeOf", recurses := true, plainKeys := false, apart := false }
def FnExactMadeOfSaid : Prop := fnExactMadeOfRow.holds Try.pinned (OpenSpec.ofChange fnExactMadeOfSpec)

/-- ITS FALSE NEIGHBOUR: 'it returns false'. Refute it at one input. -/
def fnExactMadeOfWrong : ChangeSpec := { name := "fnExactMadeOf", fn := fun _ => fun
  | [d] => { results := [.lit (.bool false)], args := [d] }
  | _ => none }
def FnExactMadeOfWrongFalsely : Prop := fnExactMadeOfRow.holds Try.pinned (OpenSpec.ofChange fnExactMadeOfWrong)

/-- 'laws.FnExactJoinedOf': WHATEVER THE INPUT: true; the input reads as it did. -/
def fnExactJoinedOfSpec : ChangeSpec := { name := "fnExactJoinedOf", fn := fun _ => fun
  | [d1, d2] => { results := [.lit (.bool true)], args := [d1, d2] }
  | _ => none }
def fnExactJoinedOfRow : OpenClaim := { program := "ytmjokeibflbeoaa", sum := "38f129fc32d41f4c0763fb007760e11ae12fcdb0ce5a2b56280e87fcb22ad12b", func := "loop.example/ownsquares/laws.FnExactJoinedOf", spec := "fnExactJoinedOf", recurses := true, plainKeys := false, apart := false }
def FnExactJoinedOfSaid : Prop := fnExactJoinedOfRow.holds Try.pinned (OpenSpec.ofChange fnExactJoinedOfSpec)

/-- ITS FALSE NEIGHBOUR: 'it returns false'. Refute it at one input. -/
def fnExactJoinedOfWrong : ChangeSpec := { name := "fnExactJoinedOf", fn := fun _ => fun
  | [d1, d2] => { results := [.lit (.bool false)], args := [d1, d2] }
  | _ => none }
def FnExactJoinedOfWrongFalsely : Prop := fnExactJoinedOfRow.holds Try.pinned (OpenSpec.ofChange fnExactJoinedOfWrong)

/-- 'laws.FnExactApartIn': WHATEVER THE INPUT: true; the input reads as it did. -/
def fnExactApartInSpec : ChangeSpec := { name := "fnExactApartIn", fn := fun _ => fun
  | [d1, d2, d3] => { results := [.lit (.bool true)], args := [d1, d2, d3] }
  | _ => none }
def fnExactApartInRow : OpenClaim := { program := "ytmjokeibflbeoaa", sum := "38f129fc32d41f4c0763fb007760e11ae12fcdb0ce5a2b56280e87fcb22ad12b", func := "loop.example/ownsquares/laws.FnExactApartIn", spec := "fnExactApartIn", unfollowed := true, recurses := true, plainKeys := false, apart := false }
def FnExactApartInSaid : Prop := fnExactApartInRow.holds Try.pinned (OpenSpec.ofChange fnExactApartInSpec)

/-- ITS FALSE NEIGHBOUR: 'it returns false'. Refute it at one input. -/
def fnExactApartInWrong : ChangeSpec := { name := "fnExactApartIn", fn := fun _ => fun
  | [d1, d2, d3] => { results := [.lit (.bool false)], args := [d1, d2, d3] }
  | _ => none }
def FnExactApartInWrongFalsely : Prop := fnExactApartInRow.holds Try.pinned (OpenSpec.ofChange fnExactApartInWrong)

/- THE SECOND FORM. 'bulk': how many values and letters a reading holds, each counted each time it is reached (what is shared counts as often as it is met; a slice's spare places count too). A statement '..UptoSaid' is the law's where the arguments, and the package variables that the reading takes, are together of bulk at most 1048576: NARROWER than '..Said'. Prove '..Said' where nothing that the law and all that it calls make is longer than what came in: it says more and counts as full. Else prove '..UptoSaid'. A law counts once. -/
mutual
def uptoBulk {H : Type} : DataW H → Nat
  | .lit (.string bytes) => bytes.length + 1
  | .lit _ => 1
  | .nil => 1
  | .ptr d => uptoBulk d + 1
  | .slice elems spare => uptoBulkAll elems + uptoBulkAll spare + 1
  | .agg parts => uptoBulkAll parts + 1
  | .iface _ d => uptoBulk d + 1
  | .map entries => uptoBulkEntries entries + 1
  | .held _ => 1
def uptoBulkAll {H : Type} : List (DataW H) → Nat
  | [] => 0
  | d :: r => uptoBulk d + uptoBulkAll r
def uptoBulkEntries {H : Type} : List (Lit × DataW H) → Nat
  | [] => 0
  | x :: r => uptoBulkEntry x + uptoBulkEntries r
def uptoBulkEntry {H : Type} : Lit × DataW H → Nat
  | (.string bytes, d) => bytes.length + uptoBulk d + 1
  | (_, d) => uptoBulk d + 1
 end
def uptoSmall : (H : Type) → List (DataW H) → Bool := fun _ ds => decide (uptoBulkAll ds ≤ 1048576)
def OpenSpec.upto (s : _root_.Go.ChangeSpec) : _root_.Go.OpenSpec := { _root_.Go.OpenSpec.ofChange s with cond := some uptoSmall }

/-- 'laws.FnSameWords', WHERE WHAT IT READS IS OF BULK AT MOST 1048576: true; the input reads as it did. -/
def fnSameWordsUptoRow : OpenClaim := { program := "ytmjokeibflbeoaa", sum := "38f129fc32d41f4c0763fb007760e11ae12fcdb0ce5a2b56280e87fcb22ad12b", func := "loop.example/ownsquares/laws.FnSameWords", spec := "fnSameWords", recurses := true, plainKeys := false, apart := false, narrowed := true }
def FnSameWordsUptoSaid : Prop := fnSameWordsUptoRow.holds Try.pinned (OpenSpec.upto fnSameWordsSpec)

/-- 'laws.FnMadeOf', WHERE WHAT IT READS IS OF BULK AT MOST 1048576: true; the input reads as it did. -/
def fnMadeOfUptoRow : OpenClaim := { program := "ytmjokeibflbeoaa", sum := "38f129fc32d41f4c0763fb007760e11ae12fcdb0ce5a2b56280e87fcb22ad12b", func := "loop.example/ownsquares/laws.FnMadeOf", spec := "fnMadeOf", recurses := true, plainKeys := false, apart := false, narrowed := true }
def FnMadeOfUptoSaid : Prop := fnMadeOfUptoRow.holds Try.pinned (OpenSpec.upto fnMadeOfSpec)

/-- 'laws.FnJoinedOf', WHERE WHAT IT READS IS OF BULK AT MOST 1048576: true; the input reads as it did. -/
def fnJoinedOfUptoRow : OpenClaim := { program := "ytmjokeibflbeoaa", sum := "38f129fc32d41f4c0763fb007760e11ae12fcdb0ce5a2b56280e87fcb22ad12b", func := "loop.example/ownsquares/laws.FnJoinedOf", spec := "fnJoinedOf", recurses := true, plainKeys := false, apart := false, narrowed := true }
def FnJoinedOfUptoSaid : Prop := fnJoinedOfUptoRow.holds Try.pinned (OpenSpec.upto fnJoinedOfSpec)

/-- 'laws.FnApartIn', WHERE WHAT IT READS IS OF BULK AT MOST 1048576: true; the input reads as it did. -/
def fnApartInUptoRow : OpenClaim := { program := "ytmjokeibflbeoaa", sum := "38f129fc32d41f4c0763fb007760e11ae12fcdb0ce5a2b56280e87fcb22ad12b", func := "loop.example/ownsquares/laws.FnApartIn", spec := "fnApartIn", unfollowed := true, recurses := true, plainKeys := false, apart := false, narrowed := true }
def FnApartInUptoSaid : Prop := fnApartInUptoRow.holds Try.pinned (OpenSpec.upto fnApartInSpec)

/-- 'laws.FnExactSameWords', WHERE WHAT IT READS IS OF BULK AT MOST 1048576: true; the input reads as it did. -/
def fnExactSameWordsUptoRow : OpenClaim := { program := "ytmjokeibflbeoaa", sum := "38f129fc32d41f4c0763fb007760e11ae12fcdb0ce5a2b56280e87fcb22ad12b", func := "loop.example/ownsquares/laws.FnExactSameWords", spec := "fnExactSameWords", recurses := true, plainKeys := false, apart := false, narrowed := true }
def FnExactSameWordsUptoSaid : Prop := fnExactSameWordsUptoRow.holds Try.pinned (OpenSpec.upto fnExactSameWordsSpec)

/-- 'laws.FnExactMadeOf', WHERE WHAT IT READS IS OF BULK AT MOST 1048576: true; the input reads as it did. -/
def fnExactMadeOfUptoRow : OpenClaim := { program := "ytmjokeibflbeoaa", sum := "38f129fc32d41f4c0763fb007760e11ae12fcdb0ce5a2b56280e87fcb22ad12b", func := "loop.example/ownsquares/laws.FnExactMadeOf", spec := "fnExactMadeOf", recurses := true, plainKeys := false, apart := false, narrowed := true }
def FnExactMadeOfUptoSaid : Prop := fnExactMadeOfUptoRow.holds Try.pinned (OpenSpec.upto fnExactMadeOfSpec)

/-- 'laws.FnExactJoinedOf', WHERE WHAT IT READS IS OF BULK AT MOST 1048576: true; the input reads as it did. -/
def fnExactJoinedOfUptoRow : OpenClaim := { program := "ytmjokeibflbeoaa", sum := "38f129fc32d41f4c0763fb007760e11ae12fcdb0ce5a2b56280e87fcb22ad12b", func := "loop.example/ownsquares/laws.FnExactJoinedOf", spec := "fnExactJoinedOf", recurses := true, plainKeys := false, apart := false, narrowed := true }
def FnExactJoinedOfUptoSaid : Prop := fnExactJoinedOfUptoRow.holds Try.pinned (OpenSpec.upto fnExactJoinedOfSpec)

/-- 'laws.FnExactApartIn', WHERE WHAT IT READS IS OF BULK AT MOST 1048576: true; the input reads as it did. -/
def fnExactApartInUptoRow : OpenClaim := { program := "ytmjokeibflbeoaa", sum := "38f129fc32d41f4c0763fb007760e11ae12fcdb0ce5a2b56280e87fcb22ad12b", func := "loop.example/ownsquares/laws.FnExactApartIn", spec := "fnExactApartIn", unfollowed := true, recurses := true, plainKeys := false, apart := false, narrowed := true }
def FnExactApartInUptoSaid : Prop := fnExactApartInUptoRow.holds Try.pinned (OpenSpec.upto fnExactApartInSpec)

end Rows
end Go.Proofs.Ytmjokeibflbeoaa
