/-
  DERIVED. GIVEN WITH THE SEED: THE CARDS: each row of YthfeojjfehbgjaaGreatDoorRows.lean that lists a variable, with what it lists TIED to the program's text (the seventh form; the later family's looks); each row that meets fmt, with fmt's text TOLD by the authors' own Lean function (tested against real Go, not proved from fmt's source: count such statements apart). THE CARD IS WHAT COUNTS. Prove the row's statement (the work); the ties are given (YthfeojjfehbgjaaGreatDoorTie.lean); close each card by the builder's one call (the guide's Derived/Test/ToyasCard.lean, 'card_holds'). Laid BY PROGRAM, IN A SANDBOX (cutbox-door.mjs). By AI agents, Wed Nov 11 2026. No macro, syntax, notation, axiom, sorry.
-/
import Derived.Test.YthfeojjfehbgjaaGreatDoorRows
import GoSem.ClaimSeven
namespace Go.Proofs.YthfeojjfehbgjaaGreatDoor
namespace Rows

/-- THE TIED CARD OF 'dryshodlaw.ObjectPuts'. -/
def objectPutsCard : Claim7 := { stood := { row := objectPutsRow, standIns := [], harness := (true, "7153453462a5975d7c582d43e0445ef710a0c991a83b721986cf6cb9221323fd"), looks := true }, kinds := [], alts := [], laidByText := true, laidKinds := [.data, .data, .data, .sentinel, .sentinel], laidTests := true, laidLooks := .later }
def ObjectPutsCardSaid : Prop := Claim7.holds Tryz.pinned (.plain (OpenSpec.ofChange objectPutsSpec)) objectPutsCard

/-- THE TIED CARD OF 'dryshodlaw.ObjectGets'. -/
def objectGetsCard : Claim7 := { stood := { row := objectGetsRow, standIns := [], harness := (true, "7153453462a5975d7c582d43e0445ef710a0c991a83b721986cf6cb9221323fd"), looks := true }, kinds := [], alts := [], laidByText := true, laidKinds := [.data, .data, .data, .sentinel, .sentinel], laidTests := true, laidLooks := .later }
def ObjectGetsCardSaid : Prop := Claim7.holds Tryz.pinned (.plain (OpenSpec.ofChange objectGetsSpec)) objectGetsCard

/-- THE SECOND FORM's CARD OF 'dryshodlaw.ObjectPuts'. -/
def objectPutsUptoCard : Claim7 := { stood := { row := objectPutsUptoRow, standIns := [], harness := (true, "7153453462a5975d7c582d43e0445ef710a0c991a83b721986cf6cb9221323fd"), looks := true }, kinds := [], alts := [], laidByText := true, laidKinds := [.data, .data, .data, .sentinel, .sentinel], laidTests := true, laidLooks := .later }
def ObjectPutsUptoCardSaid : Prop := Claim7.holds Tryz.pinned (.plain (OpenSpec.upto objectPutsSpec)) objectPutsUptoCard

/-- THE SECOND FORM's CARD OF 'dryshodlaw.ObjectGets'. -/
def objectGetsUptoCard : Claim7 := { stood := { row := objectGetsUptoRow, standIns := [], harness := (true, "7153453462a5975d7c582d43e0445ef710a0c991a83b721986cf6cb9221323fd"), looks := true }, kinds := [], alts := [], laidByText := true, laidKinds := [.data, .data, .data, .sentinel, .sentinel], laidTests := true, laidLooks := .later }
def ObjectGetsUptoCardSaid : Prop := Claim7.holds Tryz.pinned (.plain (OpenSpec.upto objectGetsSpec)) objectGetsUptoCard
end Rows
end Go.Proofs.YthfeojjfehbgjaaGreatDoor
