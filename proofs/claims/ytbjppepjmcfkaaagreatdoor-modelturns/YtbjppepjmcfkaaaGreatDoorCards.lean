/-
  DERIVED. GIVEN WITH THE SEED: THE CARDS: each row of YtbjppepjmcfkaaaGreatDoorRows.lean that lists a variable, with what it lists TIED to the program's text (the seventh form; the later family's looks); each row that meets fmt, with fmt's text TOLD by the authors' own Lean function (tested against real Go, not proved from fmt's source: count such statements apart). THE CARD IS WHAT COUNTS. Prove the row's statement (the work); the ties are given (YtbjppepjmcfkaaaGreatDoorTie.lean); close each card by the builder's one call (the guide's Derived/Test/ToyasCard.lean, 'card_holds'). Laid BY PROGRAM, IN A SANDBOX (cutbox-door.mjs). By AI agents, Wed Nov 11 2026. No macro, syntax, notation, axiom, sorry.
-/
import Derived.Test.YtbjppepjmcfkaaaGreatDoorRows
import GoSem.ClaimSeven
namespace Go.Proofs.YtbjppepjmcfkaaaGreatDoor
namespace Rows

/-- THE TIED CARD OF 'dryshodlaw.CheckTells'. -/
def checkTellsCard : Claim7 := { stood := { row := checkTellsRow, standIns := [], harness := (true, "99425240514f4c58fd20ab7b7b7f9375c51cb2c0ed5bfd192174c7f2be8241bf"), looks := true }, kinds := [], alts := [], laidByText := true, laidKinds := [.data, .data, .data, .sentinel, .sentinel, .data], laidTests := true, laidLooks := .later }
def CheckTellsCardSaid : Prop := Claim7.holds Tryz.pinned (.plain (OpenSpec.ofChange checkTellsSpec)) checkTellsCard

/-- THE TIED CARD OF 'dryshodlaw.OrderTells'. -/
def orderTellsCard : Claim7 := { stood := { row := orderTellsRow, standIns := [], harness := (true, "99425240514f4c58fd20ab7b7b7f9375c51cb2c0ed5bfd192174c7f2be8241bf"), looks := true }, kinds := [], alts := [], laidByText := true, laidKinds := [.data, .data, .data, .sentinel, .sentinel, .data], laidTests := true, laidLooks := .later }
def OrderTellsCardSaid : Prop := Claim7.holds Tryz.pinned (.plain (OpenSpec.ofChange orderTellsSpec)) orderTellsCard

/-- THE TIED CARD OF 'dryshodkeep.ModelLonger'. -/
def modelLongerCard : Claim7 := { stood := { row := modelLongerRow, standIns := [], harness := (true, "99425240514f4c58fd20ab7b7b7f9375c51cb2c0ed5bfd192174c7f2be8241bf"), looks := true }, kinds := [], alts := [], laidByText := true, laidKinds := [.data, .data, .data, .sentinel, .sentinel, .data], laidTests := true, laidLooks := .later }
def ModelLongerCardSaid : Prop := Claim7.holds Tryz.pinned (.plain (OpenSpec.ofChange modelLongerSpec)) modelLongerCard

/-- THE TIED CARD OF 'dryshodkeep.ModelTurns'. -/
def modelTurnsCard : Claim7 := { stood := { row := modelTurnsRow, standIns := [], harness := (true, "99425240514f4c58fd20ab7b7b7f9375c51cb2c0ed5bfd192174c7f2be8241bf"), looks := true }, kinds := [], alts := [], laidByText := true, laidKinds := [.data, .data, .data, .sentinel, .sentinel, .data], laidTests := true, laidLooks := .later }
def ModelTurnsCardSaid : Prop := Claim7.holds Tryz.pinned (.plain (OpenSpec.ofChange modelTurnsSpec)) modelTurnsCard

/-- THE SECOND FORM's CARD OF 'dryshodlaw.CheckTells'. -/
def checkTellsUptoCard : Claim7 := { stood := { row := checkTellsUptoRow, standIns := [], harness := (true, "99425240514f4c58fd20ab7b7b7f9375c51cb2c0ed5bfd192174c7f2be8241bf"), looks := true }, kinds := [], alts := [], laidByText := true, laidKinds := [.data, .data, .data, .sentinel, .sentinel, .data], laidTests := true, laidLooks := .later }
def CheckTellsUptoCardSaid : Prop := Claim7.holds Tryz.pinned (.plain (OpenSpec.upto checkTellsSpec)) checkTellsUptoCard

/-- THE SECOND FORM's CARD OF 'dryshodlaw.OrderTells'. -/
def orderTellsUptoCard : Claim7 := { stood := { row := orderTellsUptoRow, standIns := [], harness := (true, "99425240514f4c58fd20ab7b7b7f9375c51cb2c0ed5bfd192174c7f2be8241bf"), looks := true }, kinds := [], alts := [], laidByText := true, laidKinds := [.data, .data, .data, .sentinel, .sentinel, .data], laidTests := true, laidLooks := .later }
def OrderTellsUptoCardSaid : Prop := Claim7.holds Tryz.pinned (.plain (OpenSpec.upto orderTellsSpec)) orderTellsUptoCard

/-- THE SECOND FORM's CARD OF 'dryshodkeep.ModelLonger'. -/
def modelLongerUptoCard : Claim7 := { stood := { row := modelLongerUptoRow, standIns := [], harness := (true, "99425240514f4c58fd20ab7b7b7f9375c51cb2c0ed5bfd192174c7f2be8241bf"), looks := true }, kinds := [], alts := [], laidByText := true, laidKinds := [.data, .data, .data, .sentinel, .sentinel, .data], laidTests := true, laidLooks := .later }
def ModelLongerUptoCardSaid : Prop := Claim7.holds Tryz.pinned (.plain (OpenSpec.upto modelLongerSpec)) modelLongerUptoCard

/-- THE SECOND FORM's CARD OF 'dryshodkeep.ModelTurns'. -/
def modelTurnsUptoCard : Claim7 := { stood := { row := modelTurnsUptoRow, standIns := [], harness := (true, "99425240514f4c58fd20ab7b7b7f9375c51cb2c0ed5bfd192174c7f2be8241bf"), looks := true }, kinds := [], alts := [], laidByText := true, laidKinds := [.data, .data, .data, .sentinel, .sentinel, .data], laidTests := true, laidLooks := .later }
def ModelTurnsUptoCardSaid : Prop := Claim7.holds Tryz.pinned (.plain (OpenSpec.upto modelTurnsSpec)) modelTurnsUptoCard
end Rows
end Go.Proofs.YtbjppepjmcfkaaaGreatDoor
