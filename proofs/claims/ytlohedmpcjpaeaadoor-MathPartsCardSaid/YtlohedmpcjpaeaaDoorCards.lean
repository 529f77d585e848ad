/-
  DERIVED. GIVEN WITH THE SEED: THE CARDS: each row of YtlohedmpcjpaeaaDoorRows.lean that lists a variable, with what it lists TIED to the program's text (the seventh form; the later family's looks); each row that meets fmt, with fmt's text TOLD by the authors' own Lean function (tested against real Go, not proved from fmt's source: count such statements apart). THE CARD IS WHAT COUNTS. Prove the row's statement (the work); the ties are given (YtlohedmpcjpaeaaDoorTie.lean); close each card by the builder's one call (the guide's Derived/Test/ToyasCard.lean, 'card_holds'). Laid BY PROGRAM, IN A SANDBOX (cutbox-door.mjs). By AI agents, Wed Nov 11 2026. No macro, syntax, notation, axiom, sorry.
-/
import Derived.Test.YtlohedmpcjpaeaaDoorRows
import GoSem.ClaimSeven
namespace Go.Proofs.YtlohedmpcjpaeaaDoor
namespace Rows

/-- THE TIED CARD OF 'cassocklaw06.MathNodes'. -/
def mathNodesCard : Claim7 := { stood := { row := mathNodesRow, standIns := [], harness := (true, "dfd6def40c2e20da3225fc14888ad3574f0dce9f63b39b802ccdf3b1c12ff7d6"), looks := false }, kinds := [], alts := [], laidByText := true, laidKinds := [.data, .data], laidTests := true, laidLooks := .later }
def MathNodesCardSaid : Prop := Claim7.holds Tryd.pinned (.plain (OpenSpec.ofChange mathNodesSpec)) mathNodesCard

/-- THE TIED CARD OF 'cassocklaw06.MathTrees'. -/
def mathTreesCard : Claim7 := { stood := { row := mathTreesRow, standIns := [], harness := (true, "dfd6def40c2e20da3225fc14888ad3574f0dce9f63b39b802ccdf3b1c12ff7d6"), looks := false }, kinds := [], alts := [], laidByText := true, laidKinds := [.data, .data], laidTests := true, laidLooks := .later }
def MathTreesCardSaid : Prop := Claim7.holds Tryd.pinned (.plain (OpenSpec.ofChange mathTreesSpec)) mathTreesCard

/-- THE TIED CARD OF 'cassocklaw06.MathParts'. -/
def mathPartsCard : Claim7 := { stood := { row := mathPartsRow, standIns := [], harness := (true, "dfd6def40c2e20da3225fc14888ad3574f0dce9f63b39b802ccdf3b1c12ff7d6"), looks := false }, kinds := [], alts := [], laidByText := true, laidKinds := [.data, .data], laidTests := true, laidLooks := .later }
def MathPartsCardSaid : Prop := Claim7.holds Tryd.pinned (.plain (OpenSpec.ofChange mathPartsSpec)) mathPartsCard

/-- THE TIED CARD OF 'cassocklaw06.MathSides'. -/
def mathSidesCard : Claim7 := { stood := { row := mathSidesRow, standIns := [], harness := (true, "dfd6def40c2e20da3225fc14888ad3574f0dce9f63b39b802ccdf3b1c12ff7d6"), looks := false }, kinds := [], alts := [], laidByText := true, laidKinds := [.data, .data], laidTests := true, laidLooks := .later }
def MathSidesCardSaid : Prop := Claim7.holds Tryd.pinned (.plain (OpenSpec.ofChange mathSidesSpec)) mathSidesCard

/-- THE TIED CARD OF 'cassocklaw06.MathCopath'. -/
def mathCopathCard : Claim7 := { stood := { row := mathCopathRow, standIns := [], harness := (true, "dfd6def40c2e20da3225fc14888ad3574f0dce9f63b39b802ccdf3b1c12ff7d6"), looks := false }, kinds := [], alts := [], laidByText := true, laidKinds := [.data, .data], laidTests := true, laidLooks := .later }
def MathCopathCardSaid : Prop := Claim7.holds Tryd.pinned (.plain (OpenSpec.ofChange mathCopathSpec)) mathCopathCard

/-- THE SECOND FORM's CARD OF 'cassocklaw06.MathNodes'. -/
def mathNodesUptoCard : Claim7 := { stood := { row := mathNodesUptoRow, standIns := [], harness := (true, "dfd6def40c2e20da3225fc14888ad3574f0dce9f63b39b802ccdf3b1c12ff7d6"), looks := false }, kinds := [], alts := [], laidByText := true, laidKinds := [.data, .data], laidTests := true, laidLooks := .later }
def MathNodesUptoCardSaid : Prop := Claim7.holds Tryd.pinned (.plain (OpenSpec.upto mathNodesSpec)) mathNodesUptoCard

/-- THE SECOND FORM's CARD OF 'cassocklaw06.MathTrees'. -/
def mathTreesUptoCard : Claim7 := { stood := { row := mathTreesUptoRow, standIns := [], harness := (true, "dfd6def40c2e20da3225fc14888ad3574f0dce9f63b39b802ccdf3b1c12ff7d6"), looks := false }, kinds := [], alts := [], laidByText := true, laidKinds := [.data, .data], laidTests := true, laidLooks := .later }
def MathTreesUptoCardSaid : Prop := Claim7.holds Tryd.pinned (.plain (OpenSpec.upto mathTreesSpec)) mathTreesUptoCard

/-- THE SECOND FORM's CARD OF 'cassocklaw06.MathParts'. -/
def mathPartsUptoCard : Claim7 := { stood := { row := mathPartsUptoRow, standIns := [], harness := (true, "dfd6def40c2e20da3225fc14888ad3574f0dce9f63b39b802ccdf3b1c12ff7d6"), looks := false }, kinds := [], alts := [], laidByText := true, laidKinds := [.data, .data], laidTests := true, laidLooks := .later }
def MathPartsUptoCardSaid : Prop := Claim7.holds Tryd.pinned (.plain (OpenSpec.upto mathPartsSpec)) mathPartsUptoCard

/-- THE SECOND FORM's CARD OF 'cassocklaw06.MathSides'. -/
def mathSidesUptoCard : Claim7 := { stood := { row := mathSidesUptoRow, standIns := [], harness := (true, "dfd6def40c2e20da3225fc14888ad3574f0dce9f63b39b802ccdf3b1c12ff7d6"), looks := false }, kinds := [], alts := [], laidByText := true, laidKinds := [.data, .data], laidTests := true, laidLooks := .later }
def MathSidesUptoCardSaid : Prop := Claim7.holds Tryd.pinned (.plain (OpenSpec.upto mathSidesSpec)) mathSidesUptoCard

/-- THE SECOND FORM's CARD OF 'cassocklaw06.MathCopath'. -/
def mathCopathUptoCard : Claim7 := { stood := { row := mathCopathUptoRow, standIns := [], harness := (true, "dfd6def40c2e20da3225fc14888ad3574f0dce9f63b39b802ccdf3b1c12ff7d6"), looks := false }, kinds := [], alts := [], laidByText := true, laidKinds := [.data, .data], laidTests := true, laidLooks := .later }
def MathCopathUptoCardSaid : Prop := Claim7.holds Tryd.pinned (.plain (OpenSpec.upto mathCopathSpec)) mathCopathUptoCard
end Rows
end Go.Proofs.YtlohedmpcjpaeaaDoor
