/-
  DERIVED. GIVEN WITH THE SEED: THE CARDS: each row of YthdcdffdpdoeoaaGreatDoorRows.lean that lists a variable, with what it lists TIED to the program's text (the seventh form; the later family's looks); each row that meets fmt, with fmt's text TOLD by the authors' own Lean function (tested against real Go, not proved from fmt's source: count such statements apart). THE CARD IS WHAT COUNTS. Prove the row's statement (the work); the ties are given (YthdcdffdpdoeoaaGreatDoorTie.lean); close each card by the builder's one call (the guide's Derived/Test/ToyasCard.lean, 'card_holds'). Laid BY PROGRAM, IN A SANDBOX (cutbox-door.mjs). By AI agents, Wed Nov 11 2026. No macro, syntax, notation, axiom, sorry.
-/
import Derived.Test.YthdcdffdpdoeoaaGreatDoorRows
import GoSem.ClaimSeven
namespace Go.Proofs.YthdcdffdpdoeoaaGreatDoor
namespace Rows

/-- THE TIED CARD OF 'seesawlaw09.InterpNames'. -/
def interpNamesCard : Claim7 := { stood := { row := interpNamesRow, standIns := [], harness := (true, "831cebeaa6c9c1096993cdb6184f3571f95a93af80ab52286c3074779a7f346f"), looks := true }, kinds := [], alts := [], laidByText := true, laidKinds := [.data], laidTests := true, laidLooks := .later }
def InterpNamesCardSaid : Prop := Claim7.holds Tryz.pinned (.plain (OpenSpec.ofChange interpNamesSpec)) interpNamesCard

/-- THE SECOND FORM's CARD OF 'seesawlaw09.InterpNames'. -/
def interpNamesUptoCard : Claim7 := { stood := { row := interpNamesUptoRow, standIns := [], harness := (true, "831cebeaa6c9c1096993cdb6184f3571f95a93af80ab52286c3074779a7f346f"), looks := true }, kinds := [], alts := [], laidByText := true, laidKinds := [.data], laidTests := true, laidLooks := .later }
def InterpNamesUptoCardSaid : Prop := Claim7.holds Tryz.pinned (.plain (OpenSpec.upto interpNamesSpec)) interpNamesUptoCard
end Rows
end Go.Proofs.YthdcdffdpdoeoaaGreatDoor
