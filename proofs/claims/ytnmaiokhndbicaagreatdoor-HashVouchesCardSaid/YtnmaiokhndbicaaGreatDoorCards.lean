/-
  DERIVED. GIVEN WITH THE SEED: THE CARDS: each row of YtnmaiokhndbicaaGreatDoorRows.lean that lists a variable, with what it lists TIED to the program's text (the seventh form; the later family's looks); each row that meets fmt, with fmt's text TOLD by the authors' own Lean function (tested against real Go, not proved from fmt's source: count such statements apart). THE CARD IS WHAT COUNTS. Prove the row's statement (the work); the ties are given (YtnmaiokhndbicaaGreatDoorTie.lean); close each card by the builder's one call (the guide's Derived/Test/ToyasCard.lean, 'card_holds'). Laid BY PROGRAM, IN A SANDBOX (cutbox-door.mjs). By AI agents, Wed Nov 11 2026. No macro, syntax, notation, axiom, sorry.
-/
import Derived.Test.YtnmaiokhndbicaaGreatDoorRows
import GoSem.ClaimSeven
namespace Go.Proofs.YtnmaiokhndbicaaGreatDoor
namespace Rows

/-- THE TIED CARD OF 'cassocklaw09.HashVouches'. -/
def hashVouchesCard : Claim7 := { stood := { row := hashVouchesRow, standIns := [], harness := (true, "e88a48330ae36d872cee0e4ae74c0c15c12b1864c8992cf5120edc494dbab583"), looks := false }, kinds := [], alts := [], laidByText := true, laidKinds := [.data, .data, .data, .data], laidTests := true, laidLooks := .later }
def HashVouchesCardSaid : Prop := Claim7.holds Tryz.pinned (.plain (OpenSpec.ofChange hashVouchesSpec)) hashVouchesCard

/-- THE SECOND FORM's CARD OF 'cassocklaw09.HashVouches'. -/
def hashVouchesUptoCard : Claim7 := { stood := { row := hashVouchesUptoRow, standIns := [], harness := (true, "e88a48330ae36d872cee0e4ae74c0c15c12b1864c8992cf5120edc494dbab583"), looks := false }, kinds := [], alts := [], laidByText := true, laidKinds := [.data, .data, .data, .data], laidTests := true, laidLooks := .later }
def HashVouchesUptoCardSaid : Prop := Claim7.holds Tryz.pinned (.plain (OpenSpec.upto hashVouchesSpec)) hashVouchesUptoCard
end Rows
end Go.Proofs.YtnmaiokhndbicaaGreatDoor
