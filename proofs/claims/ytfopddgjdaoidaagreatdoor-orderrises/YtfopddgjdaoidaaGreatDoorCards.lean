/-
  DERIVED. GIVEN WITH THE SEED: THE CARDS: each row of YtfopddgjdaoidaaGreatDoorRows.lean that lists a variable, with what it lists TIED to the program's text (the seventh form; the later family's looks); each row that meets fmt, with fmt's text TOLD by the authors' own Lean function (tested against real Go, not proved from fmt's source: count such statements apart). THE CARD IS WHAT COUNTS. Prove the row's statement (the work); the ties are given (YtfopddgjdaoidaaGreatDoorTie.lean); close each card by the builder's one call (the guide's Derived/Test/ToyasCard.lean, 'card_holds'). Laid BY PROGRAM, IN A SANDBOX (cutbox-door.mjs). By AI agents, Wed Nov 11 2026. No macro, syntax, notation, axiom, sorry.
-/
import Derived.Test.YtfopddgjdaoidaaGreatDoorRows
import GoSem.ClaimSeven
namespace Go.Proofs.YtfopddgjdaoidaaGreatDoor
namespace Rows

/-- THE TIED CARD OF 'dryshodlaw.CheckTells'. -/
def checkTellsCard : Claim7 := { stood := { row := checkTellsRow, standIns := [], harness := (true, "fc0c41156ca2aa69c0e4a52feb2eaf95fa61c6b9f8307c7b5de7dfcf56382c85"), looks := true }, kinds := [], alts := [], laidByText := true, laidKinds := [.data, .data, .data, .sentinel, .sentinel, .data], laidTests := true, laidLooks := .later }
def CheckTellsCardSaid : Prop := Claim7.holds Tryz.pinned (.plain (OpenSpec.ofChange checkTellsSpec)) checkTellsCard

/-- THE TIED CARD OF 'dryshodkeep.CheckLow'. -/
def checkLowCard : Claim7 := { stood := { row := checkLowRow, standIns := [], harness := (true, "fc0c41156ca2aa69c0e4a52feb2eaf95fa61c6b9f8307c7b5de7dfcf56382c85"), looks := true }, kinds := [], alts := [], laidByText := true, laidKinds := [.data, .data, .data, .sentinel, .sentinel, .data], laidTests := true, laidLooks := .later }
def CheckLowCardSaid : Prop := Claim7.holds Tryz.pinned (.plain (OpenSpec.ofChange checkLowSpec)) checkLowCard

/-- THE TIED CARD OF 'dryshodkeep.CheckRaised'. -/
def checkRaisedCard : Claim7 := { stood := { row := checkRaisedRow, standIns := [], harness := (true, "fc0c41156ca2aa69c0e4a52feb2eaf95fa61c6b9f8307c7b5de7dfcf56382c85"), looks := true }, kinds := [], alts := [], laidByText := true, laidKinds := [.data, .data, .data, .sentinel, .sentinel, .data, .data], laidTests := true, laidLooks := .later }
def CheckRaisedCardSaid : Prop := Claim7.holds Tryz.pinned (.plain (OpenSpec.ofChange checkRaisedSpec)) checkRaisedCard

/-- THE TIED CARD OF 'dryshodkeep.CheckMore'. -/
def checkMoreCard : Claim7 := { stood := { row := checkMoreRow, standIns := [], harness := (true, "fc0c41156ca2aa69c0e4a52feb2eaf95fa61c6b9f8307c7b5de7dfcf56382c85"), looks := true }, kinds := [], alts := [], laidByText := true, laidKinds := [.data, .data, .data, .sentinel, .sentinel, .data], laidTests := true, laidLooks := .later }
def CheckMoreCardSaid : Prop := Claim7.holds Tryz.pinned (.plain (OpenSpec.ofChange checkMoreSpec)) checkMoreCard

/-- THE TIED CARD OF 'dryshodlaw.OrderTells'. -/
def orderTellsCard : Claim7 := { stood := { row := orderTellsRow, standIns := [], harness := (true, "fc0c41156ca2aa69c0e4a52feb2eaf95fa61c6b9f8307c7b5de7dfcf56382c85"), looks := true }, kinds := [], alts := [], laidByText := true, laidKinds := [.data, .data, .data, .sentinel, .sentinel, .data], laidTests := true, laidLooks := .later }
def OrderTellsCardSaid : Prop := Claim7.holds Tryz.pinned (.plain (OpenSpec.ofChange orderTellsSpec)) orderTellsCard

/-- THE TIED CARD OF 'dryshodkeep.OrderRises'. -/
def orderRisesCard : Claim7 := { stood := { row := orderRisesRow, standIns := [], harness := (true, "fc0c41156ca2aa69c0e4a52feb2eaf95fa61c6b9f8307c7b5de7dfcf56382c85"), looks := true }, kinds := [], alts := [], laidByText := true, laidKinds := [.data, .data, .data, .sentinel, .sentinel, .data], laidTests := true, laidLooks := .later }
def OrderRisesCardSaid : Prop := Claim7.holds Tryz.pinned (.plain (OpenSpec.ofChange orderRisesSpec)) orderRisesCard

/-- THE SECOND FORM's CARD OF 'dryshodlaw.CheckTells'. -/
def checkTellsUptoCard : Claim7 := { stood := { row := checkTellsUptoRow, standIns := [], harness := (true, "fc0c41156ca2aa69c0e4a52feb2eaf95fa61c6b9f8307c7b5de7dfcf56382c85"), looks := true }, kinds := [], alts := [], laidByText := true, laidKinds := [.data, .data, .data, .sentinel, .sentinel, .data], laidTests := true, laidLooks := .later }
def CheckTellsUptoCardSaid : Prop := Claim7.holds Tryz.pinned (.plain (OpenSpec.upto checkTellsSpec)) checkTellsUptoCard

/-- THE SECOND FORM's CARD OF 'dryshodkeep.CheckLow'. -/
def checkLowUptoCard : Claim7 := { stood := { row := checkLowUptoRow, standIns := [], harness := (true, "fc0c41156ca2aa69c0e4a52feb2eaf95fa61c6b9f8307c7b5de7dfcf56382c85"), looks := true }, kinds := [], alts := [], laidByText := true, laidKinds := [.data, .data, .data, .sentinel, .sentinel, .data], laidTests := true, laidLooks := .later }
def CheckLowUptoCardSaid : Prop := Claim7.holds Tryz.pinned (.plain (OpenSpec.upto checkLowSpec)) checkLowUptoCard

/-- THE SECOND FORM's CARD OF 'dryshodkeep.CheckRaised'. -/
def checkRaisedUptoCard : Claim7 := { stood := { row := checkRaisedUptoRow, standIns := [], harness := (true, "fc0c41156ca2aa69c0e4a52feb2eaf95fa61c6b9f8307c7b5de7dfcf56382c85"), looks := true }, kinds := [], alts := [], laidByText := true, laidKinds := [.data, .data, .data, .sentinel, .sentinel, .data, .data], laidTests := true, laidLooks := .later }
def CheckRaisedUptoCardSaid : Prop := Claim7.holds Tryz.pinned (.plain (OpenSpec.upto checkRaisedSpec)) checkRaisedUptoCard

/-- THE SECOND FORM's CARD OF 'dryshodkeep.CheckMore'. -/
def checkMoreUptoCard : Claim7 := { stood := { row := checkMoreUptoRow, standIns := [], harness := (true, "fc0c41156ca2aa69c0e4a52feb2eaf95fa61c6b9f8307c7b5de7dfcf56382c85"), looks := true }, kinds := [], alts := [], laidByText := true, laidKinds := [.data, .data, .data, .sentinel, .sentinel, .data], laidTests := true, laidLooks := .later }
def CheckMoreUptoCardSaid : Prop := Claim7.holds Tryz.pinned (.plain (OpenSpec.upto checkMoreSpec)) checkMoreUptoCard

/-- THE SECOND FORM's CARD OF 'dryshodlaw.OrderTells'. -/
def orderTellsUptoCard : Claim7 := { stood := { row := orderTellsUptoRow, standIns := [], harness := (true, "fc0c41156ca2aa69c0e4a52feb2eaf95fa61c6b9f8307c7b5de7dfcf56382c85"), looks := true }, kinds := [], alts := [], laidByText := true, laidKinds := [.data, .data, .data, .sentinel, .sentinel, .data], laidTests := true, laidLooks := .later }
def OrderTellsUptoCardSaid : Prop := Claim7.holds Tryz.pinned (.plain (OpenSpec.upto orderTellsSpec)) orderTellsUptoCard

/-- THE SECOND FORM's CARD OF 'dryshodkeep.OrderRises'. -/
def orderRisesUptoCard : Claim7 := { stood := { row := orderRisesUptoRow, standIns := [], harness := (true, "fc0c41156ca2aa69c0e4a52feb2eaf95fa61c6b9f8307c7b5de7dfcf56382c85"), looks := true }, kinds := [], alts := [], laidByText := true, laidKinds := [.data, .data, .data, .sentinel, .sentinel, .data], laidTests := true, laidLooks := .later }
def OrderRisesUptoCardSaid : Prop := Claim7.holds Tryz.pinned (.plain (OpenSpec.upto orderRisesSpec)) orderRisesUptoCard
end Rows
end Go.Proofs.YtfopddgjdaoidaaGreatDoor
