/-
  DERIVED. GIVEN WITH THE SEED: THE CARDS: each row of YtnkkakcnlcmikaaDoorRows.lean that lists a variable, with what it lists TIED to the program's text (the seventh form; the later family's looks); each row that meets fmt, with fmt's text TOLD by the authors' own Lean function (tested against real Go, not proved from fmt's source: count such statements apart). THE CARD IS WHAT COUNTS. Prove the row's statement (the work); the ties are given (YtnkkakcnlcmikaaDoorTie.lean); close each card by the builder's one call (the guide's Derived/Test/ToyasCard.lean, 'card_holds'). Laid BY PROGRAM, IN A SANDBOX (cutbox-door.mjs). By AI agents, Wed Nov 11 2026. No macro, syntax, notation, axiom, sorry.
-/
import Derived.Test.YtnkkakcnlcmikaaDoorRows
import GoSem.ClaimSeven
namespace Go.Proofs.YtnkkakcnlcmikaaDoor
namespace Rows

/-- THE TIED CARD OF 'seesawlaw13.ShapeNames'. -/
def shapeNamesCard : Claim7 := { stood := { row := shapeNamesRow, standIns := [], harness := (true, "f35f5ede273842e4de75cbbf8c44441ea59e5af376caa0450ce39531d8c637a0"), looks := false }, kinds := [], alts := [], laidByText := true, laidKinds := [.data], laidTests := true, laidLooks := .later }
def ShapeNamesCardSaid : Prop := Claim7.holds Tryd.pinned (.plain (OpenSpec.ofChange shapeNamesSpec)) shapeNamesCard

/-- THE TIED CARD OF 'seesawlaw13.ShapeChecks'. -/
def shapeChecksCard : Claim7 := { stood := { row := shapeChecksRow, standIns := [], harness := (true, "f35f5ede273842e4de75cbbf8c44441ea59e5af376caa0450ce39531d8c637a0"), looks := false }, kinds := [], alts := [], laidByText := true, laidKinds := [.data, .data], laidTests := true, laidLooks := .later }
def ShapeChecksCardSaid : Prop := Claim7.holds Tryd.pinned (.plain (OpenSpec.ofChange shapeChecksSpec)) shapeChecksCard

/-- THE TIED CARD OF 'seesawlaw13.ShapePrefix'. -/
def shapePrefixCard : Claim7 := { stood := { row := shapePrefixRow, standIns := [], harness := (true, "f35f5ede273842e4de75cbbf8c44441ea59e5af376caa0450ce39531d8c637a0"), looks := false }, kinds := [], alts := [], laidByText := true, laidKinds := [.data], laidTests := true, laidLooks := .later }
def ShapePrefixCardSaid : Prop := Claim7.holds Tryd.pinned (.plain (OpenSpec.ofChange shapePrefixSpec)) shapePrefixCard

/-- THE TIED CARD OF 'seesawlaw13.ShapeOwner'. -/
def shapeOwnerCard : Claim7 := { stood := { row := shapeOwnerRow, standIns := [], harness := (true, "f35f5ede273842e4de75cbbf8c44441ea59e5af376caa0450ce39531d8c637a0"), looks := false }, kinds := [], alts := [], laidByText := true, laidKinds := [.data], laidTests := true, laidLooks := .later }
def ShapeOwnerCardSaid : Prop := Claim7.holds Tryd.pinned (.plain (OpenSpec.ofChange shapeOwnerSpec)) shapeOwnerCard

/-- THE TIED CARD OF 'seesawlaw13.ShapeVersions'. -/
def shapeVersionsCard : Claim7 := { stood := { row := shapeVersionsRow, standIns := [], harness := (true, "f35f5ede273842e4de75cbbf8c44441ea59e5af376caa0450ce39531d8c637a0"), looks := false }, kinds := [], alts := [], laidByText := true, laidKinds := [.data], laidTests := true, laidLooks := .later }
def ShapeVersionsCardSaid : Prop := Claim7.holds Tryd.pinned (.plain (OpenSpec.ofChange shapeVersionsSpec)) shapeVersionsCard

/-- THE TIED CARD OF 'seesawlaw13.ShapeKept'. -/
def shapeKeptCard : Claim7 := { stood := { row := shapeKeptRow, standIns := [], harness := (true, "f35f5ede273842e4de75cbbf8c44441ea59e5af376caa0450ce39531d8c637a0"), looks := false }, kinds := [], alts := [], laidByText := true, laidKinds := [.data], laidTests := true, laidLooks := .later }
def ShapeKeptCardSaid : Prop := Claim7.holds Tryd.pinned (.plain (OpenSpec.ofChange shapeKeptSpec)) shapeKeptCard

/-- THE TIED CARD OF 'seesawlaw13.ShapeRow'. -/
def shapeRowCard : Claim7 := { stood := { row := shapeRowRow, standIns := [], harness := (true, "f35f5ede273842e4de75cbbf8c44441ea59e5af376caa0450ce39531d8c637a0"), looks := false }, kinds := [], alts := [], laidByText := true, laidKinds := [.data], laidTests := true, laidLooks := .later }
def ShapeRowCardSaid : Prop := Claim7.holds Tryd.pinned (.plain (OpenSpec.ofChange shapeRowSpec)) shapeRowCard

/-- THE SECOND FORM's CARD OF 'seesawlaw13.ShapeNames'. -/
def shapeNamesUptoCard : Claim7 := { stood := { row := shapeNamesUptoRow, standIns := [], harness := (true, "f35f5ede273842e4de75cbbf8c44441ea59e5af376caa0450ce39531d8c637a0"), looks := false }, kinds := [], alts := [], laidByText := true, laidKinds := [.data], laidTests := true, laidLooks := .later }
def ShapeNamesUptoCardSaid : Prop := Claim7.holds Tryd.pinned (.plain (OpenSpec.upto shapeNamesSpec)) shapeNamesUptoCard

/-- THE SECOND FORM's CARD OF 'seesawlaw13.ShapeChecks'. -/
def shapeChecksUptoCard : Claim7 := { stood := { row := shapeChecksUptoRow, standIns := [], harness := (true, "f35f5ede273842e4de75cbbf8c44441ea59e5af376caa0450ce39531d8c637a0"), looks := false }, kinds := [], alts := [], laidByText := true, laidKinds := [.data, .data], laidTests := true, laidLooks := .later }
def ShapeChecksUptoCardSaid : Prop := Claim7.holds Tryd.pinned (.plain (OpenSpec.upto shapeChecksSpec)) shapeChecksUptoCard

/-- THE SECOND FORM's CARD OF 'seesawlaw13.ShapePrefix'. -/
def shapePrefixUptoCard : Claim7 := { stood := { row := shapePrefixUptoRow, standIns := [], harness := (true, "f35f5ede273842e4de75cbbf8c44441ea59e5af376caa0450ce39531d8c637a0"), looks := false }, kinds := [], alts := [], laidByText := true, laidKinds := [.data], laidTests := true, laidLooks := .later }
def ShapePrefixUptoCardSaid : Prop := Claim7.holds Tryd.pinned (.plain (OpenSpec.upto shapePrefixSpec)) shapePrefixUptoCard

/-- THE SECOND FORM's CARD OF 'seesawlaw13.ShapeOwner'. -/
def shapeOwnerUptoCard : Claim7 := { stood := { row := shapeOwnerUptoRow, standIns := [], harness := (true, "f35f5ede273842e4de75cbbf8c44441ea59e5af376caa0450ce39531d8c637a0"), looks := false }, kinds := [], alts := [], laidByText := true, laidKinds := [.data], laidTests := true, laidLooks := .later }
def ShapeOwnerUptoCardSaid : Prop := Claim7.holds Tryd.pinned (.plain (OpenSpec.upto shapeOwnerSpec)) shapeOwnerUptoCard

/-- THE SECOND FORM's CARD OF 'seesawlaw13.ShapeVersions'. -/
def shapeVersionsUptoCard : Claim7 := { stood := { row := shapeVersionsUptoRow, standIns := [], harness := (true, "f35f5ede273842e4de75cbbf8c44441ea59e5af376caa0450ce39531d8c637a0"), looks := false }, kinds := [], alts := [], laidByText := true, laidKinds := [.data], laidTests := true, laidLooks := .later }
def ShapeVersionsUptoCardSaid : Prop := Claim7.holds Tryd.pinned (.plain (OpenSpec.upto shapeVersionsSpec)) shapeVersionsUptoCard

/-- THE SECOND FORM's CARD OF 'seesawlaw13.ShapeKept'. -/
def shapeKeptUptoCard : Claim7 := { stood := { row := shapeKeptUptoRow, standIns := [], harness := (true, "f35f5ede273842e4de75cbbf8c44441ea59e5af376caa0450ce39531d8c637a0"), looks := false }, kinds := [], alts := [], laidByText := true, laidKinds := [.data], laidTests := true, laidLooks := .later }
def ShapeKeptUptoCardSaid : Prop := Claim7.holds Tryd.pinned (.plain (OpenSpec.upto shapeKeptSpec)) shapeKeptUptoCard

/-- THE SECOND FORM's CARD OF 'seesawlaw13.ShapeRow'. -/
def shapeRowUptoCard : Claim7 := { stood := { row := shapeRowUptoRow, standIns := [], harness := (true, "f35f5ede273842e4de75cbbf8c44441ea59e5af376caa0450ce39531d8c637a0"), looks := false }, kinds := [], alts := [], laidByText := true, laidKinds := [.data], laidTests := true, laidLooks := .later }
def ShapeRowUptoCardSaid : Prop := Claim7.holds Tryd.pinned (.plain (OpenSpec.upto shapeRowSpec)) shapeRowUptoCard
end Rows
end Go.Proofs.YtnkkakcnlcmikaaDoor
