/-
  DERIVED. GIVEN WITH THE SEED: THE CARDS: each row of YtaadmdlbkhcfnaaGreatDoorRows.lean that lists a variable, with what it lists TIED to the program's text (the seventh form; the later family's looks); each row that meets fmt, with fmt's text TOLD by the authors' own Lean function (tested against real Go, not proved from fmt's source: count such statements apart). THE CARD IS WHAT COUNTS. Prove the row's statement (the work); the ties are given (YtaadmdlbkhcfnaaGreatDoorTie.lean); close each card by the builder's one call (the guide's Derived/Test/ToyasCard.lean, 'card_holds'). Laid BY PROGRAM, IN A SANDBOX (cutbox-door.mjs). By AI agents, Wed Nov 11 2026. No macro, syntax, notation, axiom, sorry.
-/
import Derived.Test.YtaadmdlbkhcfnaaGreatDoorRows
import GoSem.ClaimSeven
namespace Go.Proofs.YtaadmdlbkhcfnaaGreatDoor
namespace Rows

/-- THE TIED CARD OF 'dryshodkeep.CheckRaised'. -/
def checkRaisedCard : Claim7 := { stood := { row := checkRaisedRow, standIns := [], harness := (true, "380ec8249354e4a94b9a64c8c0692b28d795298668fba03baeaa45d6a32afc44"), looks := true }, kinds := [], alts := [], laidByText := true, laidKinds := [.data, .data, .data, .sentinel, .sentinel, .data, .data], laidTests := true, laidLooks := .later }
def CheckRaisedCardSaid : Prop := Claim7.holds Tryz.pinned (.plain (OpenSpec.ofChange checkRaisedSpec)) checkRaisedCard

/-- THE SECOND FORM's CARD OF 'dryshodkeep.CheckRaised'. -/
def checkRaisedUptoCard : Claim7 := { stood := { row := checkRaisedUptoRow, standIns := [], harness := (true, "380ec8249354e4a94b9a64c8c0692b28d795298668fba03baeaa45d6a32afc44"), looks := true }, kinds := [], alts := [], laidByText := true, laidKinds := [.data, .data, .data, .sentinel, .sentinel, .data, .data], laidTests := true, laidLooks := .later }
def CheckRaisedUptoCardSaid : Prop := Claim7.holds Tryz.pinned (.plain (OpenSpec.upto checkRaisedSpec)) checkRaisedUptoCard
end Rows
end Go.Proofs.YtaadmdlbkhcfnaaGreatDoor
