/-
  DERIVED. GIVEN WITH THE SEED: THE CARDS: each row of YtdhdgbihalfgeaaDoorRows.lean that lists a variable, with what it lists TIED to the program's text (the seventh form; the later family's looks); each row that meets fmt, with fmt's text TOLD by the authors' own Lean function (tested against real Go, not proved from fmt's source: count such statements apart). THE CARD IS WHAT COUNTS. Prove the row's statement (the work); the ties are given (YtdhdgbihalfgeaaDoorTie.lean); close each card by the builder's one call (the guide's Derived/Test/ToyasCard.lean, 'card_holds'). Laid BY PROGRAM, IN A SANDBOX (cutbox-door.mjs). By AI agents, Wed Nov 11 2026. No macro, syntax, notation, axiom, sorry.
-/
import Derived.Test.YtdhdgbihalfgeaaDoorRows
import GoSem.ClaimSeven
namespace Go.Proofs.YtdhdgbihalfgeaaDoor
namespace Rows

/-- THE TIED CARD OF 'cassocklaw03.TermMakes'. -/
def termMakesCard : Claim7 := { stood := { row := termMakesRow, standIns := [], harness := (true, "98b686ec4ff37d5f912753958e94112e4fc830661bb39ff94566c57e90ae8c28"), looks := false }, kinds := [], alts := [], laidByText := true, laidKinds := [.data, .data, .data, .data], laidTests := true, laidLooks := .later }
def TermMakesCardSaid : Prop := Claim7.holds Tryd.pinned (.plain (OpenSpec.ofChange termMakesSpec)) termMakesCard

/-- THE TIED CARD OF 'cassocklaw03.TermParts'. -/
def termPartsCard : Claim7 := { stood := { row := termPartsRow, standIns := [], harness := (true, "98b686ec4ff37d5f912753958e94112e4fc830661bb39ff94566c57e90ae8c28"), looks := false }, kinds := [], alts := [], laidByText := true, laidKinds := [.data, .data, .data, .data], laidTests := true, laidLooks := .later }
def TermPartsCardSaid : Prop := Claim7.holds Tryd.pinned (.plain (OpenSpec.ofChange termPartsSpec)) termPartsCard

/-- THE TIED CARD OF 'cassocklaw03.TermOnce'. -/
def termOnceCard : Claim7 := { stood := { row := termOnceRow, standIns := [], harness := (true, "98b686ec4ff37d5f912753958e94112e4fc830661bb39ff94566c57e90ae8c28"), looks := false }, kinds := [], alts := [], laidByText := true, laidKinds := [.data, .data, .data, .data], laidTests := true, laidLooks := .later }
def TermOnceCardSaid : Prop := Claim7.holds Tryd.pinned (.plain (OpenSpec.ofChange termOnceSpec)) termOnceCard

/-- THE TIED CARD OF 'cassocklaw03.TermShort'. -/
def termShortCard : Claim7 := { stood := { row := termShortRow, standIns := [], harness := (true, "98b686ec4ff37d5f912753958e94112e4fc830661bb39ff94566c57e90ae8c28"), looks := false }, kinds := [], alts := [], laidByText := true, laidKinds := [.data, .data, .data, .data], laidTests := true, laidLooks := .later }
def TermShortCardSaid : Prop := Claim7.holds Tryd.pinned (.plain (OpenSpec.ofChange termShortSpec)) termShortCard

/-- THE TIED CARD OF 'cassocklaw03.TermBelow'. -/
def termBelowCard : Claim7 := { stood := { row := termBelowRow, standIns := [], harness := (true, "98b686ec4ff37d5f912753958e94112e4fc830661bb39ff94566c57e90ae8c28"), looks := false }, kinds := [], alts := [], laidByText := true, laidKinds := [.data, .data, .data, .data], laidTests := true, laidLooks := .later }
def TermBelowCardSaid : Prop := Claim7.holds Tryd.pinned (.plain (OpenSpec.ofChange termBelowSpec)) termBelowCard

/-- THE TIED CARD OF 'cassocklaw03.TermShown'. -/
def termShownCard : Claim7 := { stood := { row := termShownRow, standIns := [], harness := (true, "98b686ec4ff37d5f912753958e94112e4fc830661bb39ff94566c57e90ae8c28"), looks := false }, kinds := [], alts := [], laidByText := true, laidKinds := [.data, .data, .data, .data], laidTests := true, laidLooks := .later }
def TermShownCardSaid : Prop := Claim7.holds Tryd.pinned (.plain (OpenSpec.ofChange termShownSpec)) termShownCard

/-- THE SECOND FORM's CARD OF 'cassocklaw03.TermMakes'. -/
def termMakesUptoCard : Claim7 := { stood := { row := termMakesUptoRow, standIns := [], harness := (true, "98b686ec4ff37d5f912753958e94112e4fc830661bb39ff94566c57e90ae8c28"), looks := false }, kinds := [], alts := [], laidByText := true, laidKinds := [.data, .data, .data, .data], laidTests := true, laidLooks := .later }
def TermMakesUptoCardSaid : Prop := Claim7.holds Tryd.pinned (.plain (OpenSpec.upto termMakesSpec)) termMakesUptoCard

/-- THE SECOND FORM's CARD OF 'cassocklaw03.TermParts'. -/
def termPartsUptoCard : Claim7 := { stood := { row := termPartsUptoRow, standIns := [], harness := (true, "98b686ec4ff37d5f912753958e94112e4fc830661bb39ff94566c57e90ae8c28"), looks := false }, kinds := [], alts := [], laidByText := true, laidKinds := [.data, .data, .data, .data], laidTests := true, laidLooks := .later }
def TermPartsUptoCardSaid : Prop := Claim7.holds Tryd.pinned (.plain (OpenSpec.upto termPartsSpec)) termPartsUptoCard

/-- THE SECOND FORM's CARD OF 'cassocklaw03.TermOnce'. -/
def termOnceUptoCard : Claim7 := { stood := { row := termOnceUptoRow, standIns := [], harness := (true, "98b686ec4ff37d5f912753958e94112e4fc830661bb39ff94566c57e90ae8c28"), looks := false }, kinds := [], alts := [], laidByText := true, laidKinds := [.data, .data, .data, .data], laidTests := true, laidLooks := .later }
def TermOnceUptoCardSaid : Prop := Claim7.holds Tryd.pinned (.plain (OpenSpec.upto termOnceSpec)) termOnceUptoCard

/-- THE SECOND FORM's CARD OF 'cassocklaw03.TermShort'. -/
def termShortUptoCard : Claim7 := { stood := { row := termShortUptoRow, standIns := [], harness := (true, "98b686ec4ff37d5f912753958e94112e4fc830661bb39ff94566c57e90ae8c28"), looks := false }, kinds := [], alts := [], laidByText := true, laidKinds := [.data, .data, .data, .data], laidTests := true, laidLooks := .later }
def TermShortUptoCardSaid : Prop := Claim7.holds Tryd.pinned (.plain (OpenSpec.upto termShortSpec)) termShortUptoCard

/-- THE SECOND FORM's CARD OF 'cassocklaw03.TermBelow'. -/
def termBelowUptoCard : Claim7 := { stood := { row := termBelowUptoRow, standIns := [], harness := (true, "98b686ec4ff37d5f912753958e94112e4fc830661bb39ff94566c57e90ae8c28"), looks := false }, kinds := [], alts := [], laidByText := true, laidKinds := [.data, .data, .data, .data], laidTests := true, laidLooks := .later }
def TermBelowUptoCardSaid : Prop := Claim7.holds Tryd.pinned (.plain (OpenSpec.upto termBelowSpec)) termBelowUptoCard

/-- THE SECOND FORM's CARD OF 'cassocklaw03.TermShown'. -/
def termShownUptoCard : Claim7 := { stood := { row := termShownUptoRow, standIns := [], harness := (true, "98b686ec4ff37d5f912753958e94112e4fc830661bb39ff94566c57e90ae8c28"), looks := false }, kinds := [], alts := [], laidByText := true, laidKinds := [.data, .data, .data, .data], laidTests := true, laidLooks := .later }
def TermShownUptoCardSaid : Prop := Claim7.holds Tryd.pinned (.plain (OpenSpec.upto termShownSpec)) termShownUptoCard
end Rows
end Go.Proofs.YtdhdgbihalfgeaaDoor
