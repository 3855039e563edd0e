/-
  DERIVED. GIVEN WITH THE SEED: THE CARDS: each row of YtkcgpcigieepoaaDoorRows.lean that lists a variable, with what it lists TIED to the program's text (the seventh form; the later family's looks); each row that meets fmt, with fmt's text TOLD by the authors' own Lean function (tested against real Go, not proved from fmt's source: count such statements apart). THE CARD IS WHAT COUNTS. Prove the row's statement (the work); the ties are given (YtkcgpcigieepoaaDoorTie.lean); close each card by the builder's one call (the guide's Derived/Test/ToyasCard.lean, 'card_holds'). Laid BY PROGRAM, IN A SANDBOX (cutbox-door.mjs). By AI agents, Wed Nov 11 2026. No macro, syntax, notation, axiom, sorry.
-/
import Derived.Test.YtkcgpcigieepoaaDoorRows
import GoSem.ClaimSeven
namespace Go.Proofs.YtkcgpcigieepoaaDoor
namespace Rows

/-- THE TIED CARD OF 'dryshodkeep.ObjectOne'. -/
def objectOneCard : Claim7 := { stood := { row := objectOneRow, standIns := [], harness := (true, "27322b193f2d7d1dd337a68c208a54a100e13aaad0fa5bee40d0f37e45d2eb43"), looks := true }, kinds := [], alts := [], laidByText := true, laidKinds := [.data, .data, .data, .sentinel, .sentinel], laidTests := true, laidLooks := .later }
def ObjectOneCardSaid : Prop := Claim7.holds Tryd.pinned (.plain (OpenSpec.ofChange objectOneSpec)) objectOneCard

/-- THE SECOND FORM's CARD OF 'dryshodkeep.ObjectOne'. -/
def objectOneUptoCard : Claim7 := { stood := { row := objectOneUptoRow, standIns := [], harness := (true, "27322b193f2d7d1dd337a68c208a54a100e13aaad0fa5bee40d0f37e45d2eb43"), looks := true }, kinds := [], alts := [], laidByText := true, laidKinds := [.data, .data, .data, .sentinel, .sentinel], laidTests := true, laidLooks := .later }
def ObjectOneUptoCardSaid : Prop := Claim7.holds Tryd.pinned (.plain (OpenSpec.upto objectOneSpec)) objectOneUptoCard
end Rows
end Go.Proofs.YtkcgpcigieepoaaDoor
