/-
  DERIVED. GIVEN WITH THE SEED: THE CARDS: each row of YtkfcglgikemefaaDoorRows.lean that lists a variable, with what it lists TIED to the program's text (the seventh form; the later family's looks); each row that meets fmt, with fmt's text TOLD by the authors' own Lean function (tested against real Go, not proved from fmt's source: count such statements apart). THE CARD IS WHAT COUNTS. Prove the row's statement (the work); the ties are given (YtkfcglgikemefaaDoorTie.lean); close each card by the builder's one call (the guide's Derived/Test/ToyasCard.lean, 'card_holds'). Laid BY PROGRAM, IN A SANDBOX (cutbox-door.mjs). By AI agents, Wed Nov 11 2026. No macro, syntax, notation, axiom, sorry.
-/
import Derived.Test.YtkfcglgikemefaaDoorRows
import GoSem.ClaimSeven
namespace Go.Proofs.YtkfcglgikemefaaDoor
namespace Rows

/-- THE TIED CARD OF 'seesawlaw13.ShapeChecks'. -/
def shapeChecksCard : Claim7 := { stood := { row := shapeChecksRow, standIns := [], harness := (true, "8100ba1f09869f8a9ed2295c053a601df4352980315dc7b1e8bc07daa96e11e3"), looks := false }, kinds := [], alts := [], laidByText := true, laidKinds := [.data, .data], laidTests := true, laidLooks := .later }
def ShapeChecksCardSaid : Prop := Claim7.holds Tryd.pinned (.plain (OpenSpec.ofChange shapeChecksSpec)) shapeChecksCard

/-- THE TIED CARD OF 'seesawlaw14.DeltaWrites'. -/
def deltaWritesCard : Claim7 := { stood := { row := deltaWritesRow, standIns := [], harness := (true, "8100ba1f09869f8a9ed2295c053a601df4352980315dc7b1e8bc07daa96e11e3"), looks := false }, kinds := [], alts := [], laidByText := true, laidKinds := [.data, .data], laidTests := true, laidLooks := .later }
def DeltaWritesCardSaid : Prop := Claim7.holds Tryd.pinned (.plain (OpenSpec.ofChange deltaWritesSpec)) deltaWritesCard

/-- THE TIED CARD OF 'seesawlaw14.DeltaReads'. -/
def deltaReadsCard : Claim7 := { stood := { row := deltaReadsRow, standIns := [], harness := (true, "8100ba1f09869f8a9ed2295c053a601df4352980315dc7b1e8bc07daa96e11e3"), looks := false }, kinds := [], alts := [], laidByText := true, laidKinds := [.data], laidTests := true, laidLooks := .later }
def DeltaReadsCardSaid : Prop := Claim7.holds Tryd.pinned (.plain (OpenSpec.ofChange deltaReadsSpec)) deltaReadsCard

/-- THE SECOND FORM's CARD OF 'seesawlaw13.ShapeChecks'. -/
def shapeChecksUptoCard : Claim7 := { stood := { row := shapeChecksUptoRow, standIns := [], harness := (true, "8100ba1f09869f8a9ed2295c053a601df4352980315dc7b1e8bc07daa96e11e3"), looks := false }, kinds := [], alts := [], laidByText := true, laidKinds := [.data, .data], laidTests := true, laidLooks := .later }
def ShapeChecksUptoCardSaid : Prop := Claim7.holds Tryd.pinned (.plain (OpenSpec.upto shapeChecksSpec)) shapeChecksUptoCard

/-- THE SECOND FORM's CARD OF 'seesawlaw14.DeltaWrites'. -/
def deltaWritesUptoCard : Claim7 := { stood := { row := deltaWritesUptoRow, standIns := [], harness := (true, "8100ba1f09869f8a9ed2295c053a601df4352980315dc7b1e8bc07daa96e11e3"), looks := false }, kinds := [], alts := [], laidByText := true, laidKinds := [.data, .data], laidTests := true, laidLooks := .later }
def DeltaWritesUptoCardSaid : Prop := Claim7.holds Tryd.pinned (.plain (OpenSpec.upto deltaWritesSpec)) deltaWritesUptoCard

/-- THE SECOND FORM's CARD OF 'seesawlaw14.DeltaReads'. -/
def deltaReadsUptoCard : Claim7 := { stood := { row := deltaReadsUptoRow, standIns := [], harness := (true, "8100ba1f09869f8a9ed2295c053a601df4352980315dc7b1e8bc07daa96e11e3"), looks := false }, kinds := [], alts := [], laidByText := true, laidKinds := [.data], laidTests := true, laidLooks := .later }
def DeltaReadsUptoCardSaid : Prop := Claim7.holds Tryd.pinned (.plain (OpenSpec.upto deltaReadsSpec)) deltaReadsUptoCard
end Rows
end Go.Proofs.YtkfcglgikemefaaDoor
