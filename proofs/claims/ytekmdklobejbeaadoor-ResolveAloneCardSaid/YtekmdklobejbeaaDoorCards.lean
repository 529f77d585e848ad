/-
  DERIVED. GIVEN WITH THE SEED: THE CARDS: each row of YtekmdklobejbeaaDoorRows.lean that lists a variable, with what it lists TIED to the program's text (the seventh form; the later family's looks); each row that meets fmt, with fmt's text TOLD by the authors' own Lean function (tested against real Go, not proved from fmt's source: count such statements apart). THE CARD IS WHAT COUNTS. Prove the row's statement (the work); the ties are given (YtekmdklobejbeaaDoorTie.lean); close each card by the builder's one call (the guide's Derived/Test/ToyasCard.lean, 'card_holds'). Laid BY PROGRAM, IN A SANDBOX (cutbox-door.mjs). By AI agents, Wed Nov 11 2026. No macro, syntax, notation, axiom, sorry.
-/
import Derived.Test.YtekmdklobejbeaaDoorRows
import GoSem.ClaimSeven
namespace Go.Proofs.YtekmdklobejbeaaDoor
namespace Rows

/-- THE TIED CARD OF 'cassocklaw08.ResolveTells'. -/
def resolveTellsCard : Claim7 := { stood := { row := resolveTellsRow, standIns := [], harness := (true, "b7d81b4905e7a491d2fe1ac02d89b6e66b674469dba0fe9b205c4ce8605d72ca"), looks := false }, kinds := [], alts := [], laidByText := true, laidKinds := [.data, .data], laidTests := true, laidLooks := .later }
def ResolveTellsCardSaid : Prop := Claim7.holds Tryd.pinned (.plain (OpenSpec.ofChange resolveTellsSpec)) resolveTellsCard

/-- THE TIED CARD OF 'cassocklaw08.ResolveOnce'. -/
def resolveOnceCard : Claim7 := { stood := { row := resolveOnceRow, standIns := [], harness := (true, "b7d81b4905e7a491d2fe1ac02d89b6e66b674469dba0fe9b205c4ce8605d72ca"), looks := false }, kinds := [], alts := [], laidByText := true, laidKinds := [.data, .data], laidTests := true, laidLooks := .later }
def ResolveOnceCardSaid : Prop := Claim7.holds Tryd.pinned (.plain (OpenSpec.ofChange resolveOnceSpec)) resolveOnceCard

/-- THE TIED CARD OF 'cassocklaw08.ResolveAlone'. -/
def resolveAloneCard : Claim7 := { stood := { row := resolveAloneRow, standIns := [], harness := (true, "b7d81b4905e7a491d2fe1ac02d89b6e66b674469dba0fe9b205c4ce8605d72ca"), looks := false }, kinds := [], alts := [], laidByText := true, laidKinds := [.data, .data], laidTests := true, laidLooks := .later }
def ResolveAloneCardSaid : Prop := Claim7.holds Tryd.pinned (.plain (OpenSpec.ofChange resolveAloneSpec)) resolveAloneCard

/-- THE SECOND FORM's CARD OF 'cassocklaw08.ResolveTells'. -/
def resolveTellsUptoCard : Claim7 := { stood := { row := resolveTellsUptoRow, standIns := [], harness := (true, "b7d81b4905e7a491d2fe1ac02d89b6e66b674469dba0fe9b205c4ce8605d72ca"), looks := false }, kinds := [], alts := [], laidByText := true, laidKinds := [.data, .data], laidTests := true, laidLooks := .later }
def ResolveTellsUptoCardSaid : Prop := Claim7.holds Tryd.pinned (.plain (OpenSpec.upto resolveTellsSpec)) resolveTellsUptoCard

/-- THE SECOND FORM's CARD OF 'cassocklaw08.ResolveOnce'. -/
def resolveOnceUptoCard : Claim7 := { stood := { row := resolveOnceUptoRow, standIns := [], harness := (true, "b7d81b4905e7a491d2fe1ac02d89b6e66b674469dba0fe9b205c4ce8605d72ca"), looks := false }, kinds := [], alts := [], laidByText := true, laidKinds := [.data, .data], laidTests := true, laidLooks := .later }
def ResolveOnceUptoCardSaid : Prop := Claim7.holds Tryd.pinned (.plain (OpenSpec.upto resolveOnceSpec)) resolveOnceUptoCard

/-- THE SECOND FORM's CARD OF 'cassocklaw08.ResolveAlone'. -/
def resolveAloneUptoCard : Claim7 := { stood := { row := resolveAloneUptoRow, standIns := [], harness := (true, "b7d81b4905e7a491d2fe1ac02d89b6e66b674469dba0fe9b205c4ce8605d72ca"), looks := false }, kinds := [], alts := [], laidByText := true, laidKinds := [.data, .data], laidTests := true, laidLooks := .later }
def ResolveAloneUptoCardSaid : Prop := Claim7.holds Tryd.pinned (.plain (OpenSpec.upto resolveAloneSpec)) resolveAloneUptoCard
end Rows
end Go.Proofs.YtekmdklobejbeaaDoor
