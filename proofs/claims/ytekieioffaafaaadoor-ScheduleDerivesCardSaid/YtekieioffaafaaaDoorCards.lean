/-
  DERIVED. GIVEN WITH THE SEED: THE CARDS: each row of YtekieioffaafaaaDoorRows.lean that lists a variable, with what it lists TIED to the program's text (the seventh form; the later family's looks); each row that meets fmt, with fmt's text TOLD by the authors' own Lean function (tested against real Go, not proved from fmt's source: count such statements apart). THE CARD IS WHAT COUNTS. Prove the row's statement (the work); the ties are given (YtekieioffaafaaaDoorTie.lean); close each card by the builder's one call (the guide's Derived/Test/ToyasCard.lean, 'card_holds'). Laid BY PROGRAM, IN A SANDBOX (cutbox-door.mjs). By AI agents, Wed Nov 11 2026. No macro, syntax, notation, axiom, sorry.
-/
import Derived.Test.YtekieioffaafaaaDoorRows
import GoSem.ClaimSeven
namespace Go.Proofs.YtekieioffaafaaaDoor
namespace Rows

/-- THE TIED CARD OF 'cassocklaw11.ScheduleDerives'. -/
def scheduleDerivesCard : Claim7 := { stood := { row := scheduleDerivesRow, standIns := [], harness := (true, "a2598eb641117e44ef3f6330fbe29165cc9c384c76217b3378c7c3ed1b820125"), looks := false }, kinds := [], alts := [], laidByText := true, laidKinds := [.data, .data, .data, .data], laidTests := true, laidLooks := .later }
def ScheduleDerivesCardSaid : Prop := Claim7.holds Tryd.pinned (.plain (OpenSpec.ofChange scheduleDerivesSpec)) scheduleDerivesCard

/-- THE TIED CARD OF 'cassocklaw11.ScheduleJoins'. -/
def scheduleJoinsCard : Claim7 := { stood := { row := scheduleJoinsRow, standIns := [], harness := (true, "a2598eb641117e44ef3f6330fbe29165cc9c384c76217b3378c7c3ed1b820125"), looks := false }, kinds := [], alts := [], laidByText := true, laidKinds := [.data, .data, .data, .data], laidTests := true, laidLooks := .later }
def ScheduleJoinsCardSaid : Prop := Claim7.holds Tryd.pinned (.plain (OpenSpec.ofChange scheduleJoinsSpec)) scheduleJoinsCard

/-- THE TIED CARD OF 'cassocklaw11.ScheduleHides'. -/
def scheduleHidesCard : Claim7 := { stood := { row := scheduleHidesRow, standIns := [], harness := (true, "a2598eb641117e44ef3f6330fbe29165cc9c384c76217b3378c7c3ed1b820125"), looks := false }, kinds := [], alts := [], laidByText := true, laidKinds := [.data, .data, .data, .data], laidTests := true, laidLooks := .later }
def ScheduleHidesCardSaid : Prop := Claim7.holds Tryd.pinned (.plain (OpenSpec.ofChange scheduleHidesSpec)) scheduleHidesCard

/-- THE TIED CARD OF 'cassocklaw11.ScheduleApart'. -/
def scheduleApartCard : Claim7 := { stood := { row := scheduleApartRow, standIns := [], harness := (true, "a2598eb641117e44ef3f6330fbe29165cc9c384c76217b3378c7c3ed1b820125"), looks := false }, kinds := [], alts := [], laidByText := true, laidKinds := [.data, .data, .data, .data], laidTests := true, laidLooks := .later }
def ScheduleApartCardSaid : Prop := Claim7.holds Tryd.pinned (.plain (OpenSpec.ofChange scheduleApartSpec)) scheduleApartCard

/-- THE TIED CARD OF 'cassocklaw11.SchedulePsk'. -/
def schedulePskCard : Claim7 := { stood := { row := schedulePskRow, standIns := [], harness := (true, "a2598eb641117e44ef3f6330fbe29165cc9c384c76217b3378c7c3ed1b820125"), looks := false }, kinds := [], alts := [], laidByText := true, laidKinds := [.data, .data, .data, .data], laidTests := true, laidLooks := .later }
def SchedulePskCardSaid : Prop := Claim7.holds Tryd.pinned (.plain (OpenSpec.ofChange schedulePskSpec)) schedulePskCard

/-- THE SECOND FORM's CARD OF 'cassocklaw11.ScheduleDerives'. -/
def scheduleDerivesUptoCard : Claim7 := { stood := { row := scheduleDerivesUptoRow, standIns := [], harness := (true, "a2598eb641117e44ef3f6330fbe29165cc9c384c76217b3378c7c3ed1b820125"), looks := false }, kinds := [], alts := [], laidByText := true, laidKinds := [.data, .data, .data, .data], laidTests := true, laidLooks := .later }
def ScheduleDerivesUptoCardSaid : Prop := Claim7.holds Tryd.pinned (.plain (OpenSpec.upto scheduleDerivesSpec)) scheduleDerivesUptoCard

/-- THE SECOND FORM's CARD OF 'cassocklaw11.ScheduleJoins'. -/
def scheduleJoinsUptoCard : Claim7 := { stood := { row := scheduleJoinsUptoRow, standIns := [], harness := (true, "a2598eb641117e44ef3f6330fbe29165cc9c384c76217b3378c7c3ed1b820125"), looks := false }, kinds := [], alts := [], laidByText := true, laidKinds := [.data, .data, .data, .data], laidTests := true, laidLooks := .later }
def ScheduleJoinsUptoCardSaid : Prop := Claim7.holds Tryd.pinned (.plain (OpenSpec.upto scheduleJoinsSpec)) scheduleJoinsUptoCard

/-- THE SECOND FORM's CARD OF 'cassocklaw11.ScheduleHides'. -/
def scheduleHidesUptoCard : Claim7 := { stood := { row := scheduleHidesUptoRow, standIns := [], harness := (true, "a2598eb641117e44ef3f6330fbe29165cc9c384c76217b3378c7c3ed1b820125"), looks := false }, kinds := [], alts := [], laidByText := true, laidKinds := [.data, .data, .data, .data], laidTests := true, laidLooks := .later }
def ScheduleHidesUptoCardSaid : Prop := Claim7.holds Tryd.pinned (.plain (OpenSpec.upto scheduleHidesSpec)) scheduleHidesUptoCard

/-- THE SECOND FORM's CARD OF 'cassocklaw11.ScheduleApart'. -/
def scheduleApartUptoCard : Claim7 := { stood := { row := scheduleApartUptoRow, standIns := [], harness := (true, "a2598eb641117e44ef3f6330fbe29165cc9c384c76217b3378c7c3ed1b820125"), looks := false }, kinds := [], alts := [], laidByText := true, laidKinds := [.data, .data, .data, .data], laidTests := true, laidLooks := .later }
def ScheduleApartUptoCardSaid : Prop := Claim7.holds Tryd.pinned (.plain (OpenSpec.upto scheduleApartSpec)) scheduleApartUptoCard

/-- THE SECOND FORM's CARD OF 'cassocklaw11.SchedulePsk'. -/
def schedulePskUptoCard : Claim7 := { stood := { row := schedulePskUptoRow, standIns := [], harness := (true, "a2598eb641117e44ef3f6330fbe29165cc9c384c76217b3378c7c3ed1b820125"), looks := false }, kinds := [], alts := [], laidByText := true, laidKinds := [.data, .data, .data, .data], laidTests := true, laidLooks := .later }
def SchedulePskUptoCardSaid : Prop := Claim7.holds Tryd.pinned (.plain (OpenSpec.upto schedulePskSpec)) schedulePskUptoCard
end Rows
end Go.Proofs.YtekieioffaafaaaDoor
