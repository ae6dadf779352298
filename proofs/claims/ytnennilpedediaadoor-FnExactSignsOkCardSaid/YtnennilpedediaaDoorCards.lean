/-
  DERIVED. GIVEN WITH THE SEED: THE CARDS: each row of YtnennilpedediaaDoorRows.lean that lists a variable, with what it lists TIED to the program's text (the seventh form; the later family's looks); each row that meets fmt, with fmt's text TOLD by the authors' own Lean function (tested against real Go, not proved from fmt's source: count such statements apart). THE CARD IS WHAT COUNTS. Prove the row's statement (the work); the ties are given (YtnennilpedediaaDoorTie.lean); close each card by the builder's one call (the guide's Derived/Test/ToyasCard.lean, 'card_holds'). Laid BY PROGRAM, IN A SANDBOX (cutbox-door.mjs). By AI agents, Wed Nov 11 2026. No macro, syntax, notation, axiom, sorry.
-/
import Derived.Test.YtnennilpedediaaDoorRows
import GoSem.ClaimSeven
namespace Go.Proofs.YtnennilpedediaaDoor
namespace Rows

/-- THE TIED CARD OF 'laws.FnSignsOk'. -/
def fnSignsOkCard : Claim7 := { stood := { row := fnSignsOkRow, standIns := [], harness := (true, "970ec0d8263494cc07b925cb057fac4f74b4a1f2e7f1d9ae97f29ec918988a8d"), looks := false }, kinds := [], alts := [], laidByText := true, laidKinds := [.data, .pinned], laidTests := true, laidLooks := .later }
def FnSignsOkCardSaid : Prop := Claim7.holds Tryd.pinned (.plain (OpenSpec.ofChange fnSignsOkSpec)) fnSignsOkCard

/-- THE TIED CARD OF 'laws.FnThenOf'. -/
def fnThenOfCard : Claim7 := { stood := { row := fnThenOfRow, standIns := [], harness := (true, "970ec0d8263494cc07b925cb057fac4f74b4a1f2e7f1d9ae97f29ec918988a8d"), looks := false }, kinds := [], alts := [], laidByText := true, laidKinds := [.data, .pinned], laidTests := true, laidLooks := .later }
def FnThenOfCardSaid : Prop := Claim7.holds Tryd.pinned (.plain (OpenSpec.ofChange fnThenOfSpec)) fnThenOfCard

/-- THE TIED CARD OF 'laws.FnSupportOf'. -/
def fnSupportOfCard : Claim7 := { stood := { row := fnSupportOfRow, standIns := [], harness := (true, "970ec0d8263494cc07b925cb057fac4f74b4a1f2e7f1d9ae97f29ec918988a8d"), looks := false }, kinds := [], alts := [], laidByText := true, laidKinds := [.data, .pinned], laidTests := true, laidLooks := .later }
def FnSupportOfCardSaid : Prop := Claim7.holds Tryd.pinned (.plain (OpenSpec.ofChange fnSupportOfSpec)) fnSupportOfCard

/-- THE TIED CARD OF 'laws.FnExactSignsOk'. -/
def fnExactSignsOkCard : Claim7 := { stood := { row := fnExactSignsOkRow, standIns := [], harness := (true, "970ec0d8263494cc07b925cb057fac4f74b4a1f2e7f1d9ae97f29ec918988a8d"), looks := false }, kinds := [], alts := [], laidByText := true, laidKinds := [.data, .pinned], laidTests := true, laidLooks := .later }
def FnExactSignsOkCardSaid : Prop := Claim7.holds Tryd.pinned (.plain (OpenSpec.ofChange fnExactSignsOkSpec)) fnExactSignsOkCard

/-- THE TIED CARD OF 'laws.FnExactThenOf'. -/
def fnExactThenOfCard : Claim7 := { stood := { row := fnExactThenOfRow, standIns := [], harness := (true, "970ec0d8263494cc07b925cb057fac4f74b4a1f2e7f1d9ae97f29ec918988a8d"), looks := false }, kinds := [], alts := [], laidByText := true, laidKinds := [.data, .pinned], laidTests := true, laidLooks := .later }
def FnExactThenOfCardSaid : Prop := Claim7.holds Tryd.pinned (.plain (OpenSpec.ofChange fnExactThenOfSpec)) fnExactThenOfCard

/-- THE TIED CARD OF 'laws.FnExactSupportOf'. -/
def fnExactSupportOfCard : Claim7 := { stood := { row := fnExactSupportOfRow, standIns := [], harness := (true, "970ec0d8263494cc07b925cb057fac4f74b4a1f2e7f1d9ae97f29ec918988a8d"), looks := false }, kinds := [], alts := [], laidByText := true, laidKinds := [.data, .pinned], laidTests := true, laidLooks := .later }
def FnExactSupportOfCardSaid : Prop := Claim7.holds Tryd.pinned (.plain (OpenSpec.ofChange fnExactSupportOfSpec)) fnExactSupportOfCard

/-- THE SECOND FORM's CARD OF 'laws.FnSignsOk'. -/
def fnSignsOkUptoCard : Claim7 := { stood := { row := fnSignsOkUptoRow, standIns := [], harness := (true, "970ec0d8263494cc07b925cb057fac4f74b4a1f2e7f1d9ae97f29ec918988a8d"), looks := false }, kinds := [], alts := [], laidByText := true, laidKinds := [.data, .pinned], laidTests := true, laidLooks := .later }
def FnSignsOkUptoCardSaid : Prop := Claim7.holds Tryd.pinned (.plain (OpenSpec.upto fnSignsOkSpec)) fnSignsOkUptoCard

/-- THE SECOND FORM's CARD OF 'laws.FnThenOf'. -/
def fnThenOfUptoCard : Claim7 := { stood := { row := fnThenOfUptoRow, standIns := [], harness := (true, "970ec0d8263494cc07b925cb057fac4f74b4a1f2e7f1d9ae97f29ec918988a8d"), looks := false }, kinds := [], alts := [], laidByText := true, laidKinds := [.data, .pinned], laidTests := true, laidLooks := .later }
def FnThenOfUptoCardSaid : Prop := Claim7.holds Tryd.pinned (.plain (OpenSpec.upto fnThenOfSpec)) fnThenOfUptoCard

/-- THE SECOND FORM's CARD OF 'laws.FnSupportOf'. -/
def fnSupportOfUptoCard : Claim7 := { stood := { row := fnSupportOfUptoRow, standIns := [], harness := (true, "970ec0d8263494cc07b925cb057fac4f74b4a1f2e7f1d9ae97f29ec918988a8d"), looks := false }, kinds := [], alts := [], laidByText := true, laidKinds := [.data, .pinned], laidTests := true, laidLooks := .later }
def FnSupportOfUptoCardSaid : Prop := Claim7.holds Tryd.pinned (.plain (OpenSpec.upto fnSupportOfSpec)) fnSupportOfUptoCard

/-- THE SECOND FORM's CARD OF 'laws.FnExactSignsOk'. -/
def fnExactSignsOkUptoCard : Claim7 := { stood := { row := fnExactSignsOkUptoRow, standIns := [], harness := (true, "970ec0d8263494cc07b925cb057fac4f74b4a1f2e7f1d9ae97f29ec918988a8d"), looks := false }, kinds := [], alts := [], laidByText := true, laidKinds := [.data, .pinned], laidTests := true, laidLooks := .later }
def FnExactSignsOkUptoCardSaid : Prop := Claim7.holds Tryd.pinned (.plain (OpenSpec.upto fnExactSignsOkSpec)) fnExactSignsOkUptoCard

/-- THE SECOND FORM's CARD OF 'laws.FnExactThenOf'. -/
def fnExactThenOfUptoCard : Claim7 := { stood := { row := fnExactThenOfUptoRow, standIns := [], harness := (true, "970ec0d8263494cc07b925cb057fac4f74b4a1f2e7f1d9ae97f29ec918988a8d"), looks := false }, kinds := [], alts := [], laidByText := true, laidKinds := [.data, .pinned], laidTests := true, laidLooks := .later }
def FnExactThenOfUptoCardSaid : Prop := Claim7.holds Tryd.pinned (.plain (OpenSpec.upto fnExactThenOfSpec)) fnExactThenOfUptoCard

/-- THE SECOND FORM's CARD OF 'laws.FnExactSupportOf'. -/
def fnExactSupportOfUptoCard : Claim7 := { stood := { row := fnExactSupportOfUptoRow, standIns := [], harness := (true, "970ec0d8263494cc07b925cb057fac4f74b4a1f2e7f1d9ae97f29ec918988a8d"), looks := false }, kinds := [], alts := [], laidByText := true, laidKinds := [.data, .pinned], laidTests := true, laidLooks := .later }
def FnExactSupportOfUptoCardSaid : Prop := Claim7.holds Tryd.pinned (.plain (OpenSpec.upto fnExactSupportOfSpec)) fnExactSupportOfUptoCard
end Rows
end Go.Proofs.YtnennilpedediaaDoor
