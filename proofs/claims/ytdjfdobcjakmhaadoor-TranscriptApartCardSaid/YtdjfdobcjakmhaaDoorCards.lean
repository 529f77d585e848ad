/-
  DERIVED. GIVEN WITH THE SEED: THE CARDS: each row of YtdjfdobcjakmhaaDoorRows.lean that lists a variable, with what it lists TIED to the program's text (the seventh form; the later family's looks); each row that meets fmt, with fmt's text TOLD by the authors' own Lean function (tested against real Go, not proved from fmt's source: count such statements apart). THE CARD IS WHAT COUNTS. Prove the row's statement (the work); the ties are given (YtdjfdobcjakmhaaDoorTie.lean); close each card by the builder's one call (the guide's Derived/Test/ToyasCard.lean, 'card_holds'). Laid BY PROGRAM, IN A SANDBOX (cutbox-door.mjs). By AI agents, Wed Nov 11 2026. No macro, syntax, notation, axiom, sorry.
-/
import Derived.Test.YtdjfdobcjakmhaaDoorRows
import GoSem.ClaimSeven
namespace Go.Proofs.YtdjfdobcjakmhaaDoor
namespace Rows

/-- THE TIED CARD OF 'cassocklaw12.TranscriptMakes'. -/
def transcriptMakesCard : Claim7 := { stood := { row := transcriptMakesRow, standIns := [], harness := (true, "5027f18f8758a57d7e742d0ad4b73e5d93fe59594041c54f7a3cd6a3031aba78"), looks := true }, kinds := [], alts := [], laidByText := true, laidKinds := [.data, .data, .data, .sentinel, .sentinel, .data], laidTests := true, laidLooks := .later }
def TranscriptMakesCardSaid : Prop := Claim7.holds Tryd.pinned (.plain (OpenSpec.ofChange transcriptMakesSpec)) transcriptMakesCard

/-- THE TIED CARD OF 'cassocklaw12.TranscriptReads'. -/
def transcriptReadsCard : Claim7 := { stood := { row := transcriptReadsRow, standIns := [], harness := (true, "5027f18f8758a57d7e742d0ad4b73e5d93fe59594041c54f7a3cd6a3031aba78"), looks := true }, kinds := [], alts := [], laidByText := true, laidKinds := [.data, .data, .data, .sentinel, .sentinel, .data], laidTests := true, laidLooks := .later }
def TranscriptReadsCardSaid : Prop := Claim7.holds Tryd.pinned (.plain (OpenSpec.ofChange transcriptReadsSpec)) transcriptReadsCard

/-- THE TIED CARD OF 'cassocklaw12.TranscriptApart'. -/
def transcriptApartCard : Claim7 := { stood := { row := transcriptApartRow, standIns := [], harness := (true, "5027f18f8758a57d7e742d0ad4b73e5d93fe59594041c54f7a3cd6a3031aba78"), looks := true }, kinds := [], alts := [], laidByText := true, laidKinds := [.data, .data, .data, .sentinel, .sentinel, .data], laidTests := true, laidLooks := .later }
def TranscriptApartCardSaid : Prop := Claim7.holds Tryd.pinned (.plain (OpenSpec.ofChange transcriptApartSpec)) transcriptApartCard

/-- THE TIED CARD OF 'cassocklaw12.TranscriptBack'. -/
def transcriptBackCard : Claim7 := { stood := { row := transcriptBackRow, standIns := [], harness := (true, "5027f18f8758a57d7e742d0ad4b73e5d93fe59594041c54f7a3cd6a3031aba78"), looks := true }, kinds := [], alts := [], laidByText := true, laidKinds := [.data, .data, .data, .sentinel, .sentinel, .data], laidTests := true, laidLooks := .later }
def TranscriptBackCardSaid : Prop := Claim7.holds Tryd.pinned (.plain (OpenSpec.ofChange transcriptBackSpec)) transcriptBackCard

/-- THE TIED CARD OF 'cassocklaw12.TranscriptGoes'. -/
def transcriptGoesCard : Claim7 := { stood := { row := transcriptGoesRow, standIns := [], harness := (true, "5027f18f8758a57d7e742d0ad4b73e5d93fe59594041c54f7a3cd6a3031aba78"), looks := true }, kinds := [], alts := [], laidByText := true, laidKinds := [.data, .data, .data, .sentinel, .sentinel, .data], laidTests := true, laidLooks := .later }
def TranscriptGoesCardSaid : Prop := Claim7.holds Tryd.pinned (.plain (OpenSpec.ofChange transcriptGoesSpec)) transcriptGoesCard

/-- THE TIED CARD OF 'cassocklaw12.TranscriptTags'. -/
def transcriptTagsCard : Claim7 := { stood := { row := transcriptTagsRow, standIns := [], harness := (true, "5027f18f8758a57d7e742d0ad4b73e5d93fe59594041c54f7a3cd6a3031aba78"), looks := true }, kinds := [], alts := [], laidByText := true, laidKinds := [.data, .data, .data, .sentinel, .sentinel, .data], laidTests := true, laidLooks := .later }
def TranscriptTagsCardSaid : Prop := Claim7.holds Tryd.pinned (.plain (OpenSpec.ofChange transcriptTagsSpec)) transcriptTagsCard

/-- THE SECOND FORM's CARD OF 'cassocklaw12.TranscriptMakes'. -/
def transcriptMakesUptoCard : Claim7 := { stood := { row := transcriptMakesUptoRow, standIns := [], harness := (true, "5027f18f8758a57d7e742d0ad4b73e5d93fe59594041c54f7a3cd6a3031aba78"), looks := true }, kinds := [], alts := [], laidByText := true, laidKinds := [.data, .data, .data, .sentinel, .sentinel, .data], laidTests := true, laidLooks := .later }
def TranscriptMakesUptoCardSaid : Prop := Claim7.holds Tryd.pinned (.plain (OpenSpec.upto transcriptMakesSpec)) transcriptMakesUptoCard

/-- THE SECOND FORM's CARD OF 'cassocklaw12.TranscriptReads'. -/
def transcriptReadsUptoCard : Claim7 := { stood := { row := transcriptReadsUptoRow, standIns := [], harness := (true, "5027f18f8758a57d7e742d0ad4b73e5d93fe59594041c54f7a3cd6a3031aba78"), looks := true }, kinds := [], alts := [], laidByText := true, laidKinds := [.data, .data, .data, .sentinel, .sentinel, .data], laidTests := true, laidLooks := .later }
def TranscriptReadsUptoCardSaid : Prop := Claim7.holds Tryd.pinned (.plain (OpenSpec.upto transcriptReadsSpec)) transcriptReadsUptoCard

/-- THE SECOND FORM's CARD OF 'cassocklaw12.TranscriptApart'. -/
def transcriptApartUptoCard : Claim7 := { stood := { row := transcriptApartUptoRow, standIns := [], harness := (true, "5027f18f8758a57d7e742d0ad4b73e5d93fe59594041c54f7a3cd6a3031aba78"), looks := true }, kinds := [], alts := [], laidByText := true, laidKinds := [.data, .data, .data, .sentinel, .sentinel, .data], laidTests := true, laidLooks := .later }
def TranscriptApartUptoCardSaid : Prop := Claim7.holds Tryd.pinned (.plain (OpenSpec.upto transcriptApartSpec)) transcriptApartUptoCard

/-- THE SECOND FORM's CARD OF 'cassocklaw12.TranscriptBack'. -/
def transcriptBackUptoCard : Claim7 := { stood := { row := transcriptBackUptoRow, standIns := [], harness := (true, "5027f18f8758a57d7e742d0ad4b73e5d93fe59594041c54f7a3cd6a3031aba78"), looks := true }, kinds := [], alts := [], laidByText := true, laidKinds := [.data, .data, .data, .sentinel, .sentinel, .data], laidTests := true, laidLooks := .later }
def TranscriptBackUptoCardSaid : Prop := Claim7.holds Tryd.pinned (.plain (OpenSpec.upto transcriptBackSpec)) transcriptBackUptoCard

/-- THE SECOND FORM's CARD OF 'cassocklaw12.TranscriptGoes'. -/
def transcriptGoesUptoCard : Claim7 := { stood := { row := transcriptGoesUptoRow, standIns := [], harness := (true, "5027f18f8758a57d7e742d0ad4b73e5d93fe59594041c54f7a3cd6a3031aba78"), looks := true }, kinds := [], alts := [], laidByText := true, laidKinds := [.data, .data, .data, .sentinel, .sentinel, .data], laidTests := true, laidLooks := .later }
def TranscriptGoesUptoCardSaid : Prop := Claim7.holds Tryd.pinned (.plain (OpenSpec.upto transcriptGoesSpec)) transcriptGoesUptoCard

/-- THE SECOND FORM's CARD OF 'cassocklaw12.TranscriptTags'. -/
def transcriptTagsUptoCard : Claim7 := { stood := { row := transcriptTagsUptoRow, standIns := [], harness := (true, "5027f18f8758a57d7e742d0ad4b73e5d93fe59594041c54f7a3cd6a3031aba78"), looks := true }, kinds := [], alts := [], laidByText := true, laidKinds := [.data, .data, .data, .sentinel, .sentinel, .data], laidTests := true, laidLooks := .later }
def TranscriptTagsUptoCardSaid : Prop := Claim7.holds Tryd.pinned (.plain (OpenSpec.upto transcriptTagsSpec)) transcriptTagsUptoCard
end Rows
end Go.Proofs.YtdjfdobcjakmhaaDoor
