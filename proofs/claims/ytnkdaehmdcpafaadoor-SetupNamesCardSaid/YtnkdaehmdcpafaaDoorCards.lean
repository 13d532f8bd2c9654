/-
  DERIVED. GIVEN WITH THE SEED: THE CARDS: each row of YtnkdaehmdcpafaaDoorRows.lean that lists a variable, with what it lists TIED to the program's text (the seventh form; the later family's looks); each row that meets fmt, with fmt's text TOLD by the authors' own Lean function (tested against real Go, not proved from fmt's source: count such statements apart). THE CARD IS WHAT COUNTS. Prove the row's statement (the work); the ties are given (YtnkdaehmdcpafaaDoorTie.lean); close each card by the builder's one call (the guide's Derived/Test/ToyasCard.lean, 'card_holds'). Laid BY PROGRAM, IN A SANDBOX (cutbox-door.mjs). By AI agents, Wed Nov 11 2026. No macro, syntax, notation, axiom, sorry.
-/
import Derived.Test.YtnkdaehmdcpafaaDoorRows
import GoSem.ClaimSeven
namespace Go.Proofs.YtnkdaehmdcpafaaDoor
namespace Rows

/-- THE TIED CARD OF 'seesawlaw06.SetupTells'. -/
def setupTellsCard : Claim7 := { stood := { row := setupTellsRow, standIns := [], harness := (true, "21576f133480cc7732188fd180f0838c14894fe59fafef06513ed297ae27d8be"), looks := false }, kinds := [], alts := [], laidByText := true, laidKinds := [.data], laidTests := true, laidLooks := .later }
def SetupTellsCardSaid : Prop := Claim7.holds Tryd.pinned (.plain (OpenSpec.ofChange setupTellsSpec)) setupTellsCard

/-- THE TIED CARD OF 'seesawlaw06.SetupStripes'. -/
def setupStripesCard : Claim7 := { stood := { row := setupStripesRow, standIns := [], harness := (true, "21576f133480cc7732188fd180f0838c14894fe59fafef06513ed297ae27d8be"), looks := false }, kinds := [], alts := [], laidByText := true, laidKinds := [.data], laidTests := true, laidLooks := .later }
def SetupStripesCardSaid : Prop := Claim7.holds Tryd.pinned (.plain (OpenSpec.ofChange setupStripesSpec)) setupStripesCard

/-- THE TIED CARD OF 'seesawlaw06.SetupNames'. -/
def setupNamesCard : Claim7 := { stood := { row := setupNamesRow, standIns := [], harness := (true, "21576f133480cc7732188fd180f0838c14894fe59fafef06513ed297ae27d8be"), looks := false }, kinds := [], alts := [], laidByText := true, laidKinds := [.data], laidTests := true, laidLooks := .later }
def SetupNamesCardSaid : Prop := Claim7.holds Tryd.pinned (.plain (OpenSpec.ofChange setupNamesSpec)) setupNamesCard

/-- THE TIED CARD OF 'seesawlaw06.SetupEach'. -/
def setupEachCard : Claim7 := { stood := { row := setupEachRow, standIns := [], harness := (true, "21576f133480cc7732188fd180f0838c14894fe59fafef06513ed297ae27d8be"), looks := false }, kinds := [], alts := [], laidByText := true, laidKinds := [.data], laidTests := true, laidLooks := .later }
def SetupEachCardSaid : Prop := Claim7.holds Tryd.pinned (.plain (OpenSpec.ofChange setupEachSpec)) setupEachCard

/-- THE TIED CARD OF 'seesawlaw06.SetupParted'. -/
def setupPartedCard : Claim7 := { stood := { row := setupPartedRow, standIns := [], harness := (true, "21576f133480cc7732188fd180f0838c14894fe59fafef06513ed297ae27d8be"), looks := false }, kinds := [], alts := [], laidByText := true, laidKinds := [.data], laidTests := true, laidLooks := .later }
def SetupPartedCardSaid : Prop := Claim7.holds Tryd.pinned (.plain (OpenSpec.ofChange setupPartedSpec)) setupPartedCard

/-- THE TIED CARD OF 'seesawlaw06.SetupAlike'. -/
def setupAlikeCard : Claim7 := { stood := { row := setupAlikeRow, standIns := [], harness := (true, "21576f133480cc7732188fd180f0838c14894fe59fafef06513ed297ae27d8be"), looks := false }, kinds := [], alts := [], laidByText := true, laidKinds := [.data], laidTests := true, laidLooks := .later }
def SetupAlikeCardSaid : Prop := Claim7.holds Tryd.pinned (.plain (OpenSpec.ofChange setupAlikeSpec)) setupAlikeCard

/-- THE TIED CARD OF 'seesawlaw06.SetupLess'. -/
def setupLessCard : Claim7 := { stood := { row := setupLessRow, standIns := [], harness := (true, "21576f133480cc7732188fd180f0838c14894fe59fafef06513ed297ae27d8be"), looks := false }, kinds := [], alts := [], laidByText := true, laidKinds := [.data], laidTests := true, laidLooks := .later }
def SetupLessCardSaid : Prop := Claim7.holds Tryd.pinned (.plain (OpenSpec.ofChange setupLessSpec)) setupLessCard

/-- THE SECOND FORM's CARD OF 'seesawlaw06.SetupTells'. -/
def setupTellsUptoCard : Claim7 := { stood := { row := setupTellsUptoRow, standIns := [], harness := (true, "21576f133480cc7732188fd180f0838c14894fe59fafef06513ed297ae27d8be"), looks := false }, kinds := [], alts := [], laidByText := true, laidKinds := [.data], laidTests := true, laidLooks := .later }
def SetupTellsUptoCardSaid : Prop := Claim7.holds Tryd.pinned (.plain (OpenSpec.upto setupTellsSpec)) setupTellsUptoCard

/-- THE SECOND FORM's CARD OF 'seesawlaw06.SetupStripes'. -/
def setupStripesUptoCard : Claim7 := { stood := { row := setupStripesUptoRow, standIns := [], harness := (true, "21576f133480cc7732188fd180f0838c14894fe59fafef06513ed297ae27d8be"), looks := false }, kinds := [], alts := [], laidByText := true, laidKinds := [.data], laidTests := true, laidLooks := .later }
def SetupStripesUptoCardSaid : Prop := Claim7.holds Tryd.pinned (.plain (OpenSpec.upto setupStripesSpec)) setupStripesUptoCard

/-- THE SECOND FORM's CARD OF 'seesawlaw06.SetupNames'. -/
def setupNamesUptoCard : Claim7 := { stood := { row := setupNamesUptoRow, standIns := [], harness := (true, "21576f133480cc7732188fd180f0838c14894fe59fafef06513ed297ae27d8be"), looks := false }, kinds := [], alts := [], laidByText := true, laidKinds := [.data], laidTests := true, laidLooks := .later }
def SetupNamesUptoCardSaid : Prop := Claim7.holds Tryd.pinned (.plain (OpenSpec.upto setupNamesSpec)) setupNamesUptoCard

/-- THE SECOND FORM's CARD OF 'seesawlaw06.SetupEach'. -/
def setupEachUptoCard : Claim7 := { stood := { row := setupEachUptoRow, standIns := [], harness := (true, "21576f133480cc7732188fd180f0838c14894fe59fafef06513ed297ae27d8be"), looks := false }, kinds := [], alts := [], laidByText := true, laidKinds := [.data], laidTests := true, laidLooks := .later }
def SetupEachUptoCardSaid : Prop := Claim7.holds Tryd.pinned (.plain (OpenSpec.upto setupEachSpec)) setupEachUptoCard

/-- THE SECOND FORM's CARD OF 'seesawlaw06.SetupParted'. -/
def setupPartedUptoCard : Claim7 := { stood := { row := setupPartedUptoRow, standIns := [], harness := (true, "21576f133480cc7732188fd180f0838c14894fe59fafef06513ed297ae27d8be"), looks := false }, kinds := [], alts := [], laidByText := true, laidKinds := [.data], laidTests := true, laidLooks := .later }
def SetupPartedUptoCardSaid : Prop := Claim7.holds Tryd.pinned (.plain (OpenSpec.upto setupPartedSpec)) setupPartedUptoCard

/-- THE SECOND FORM's CARD OF 'seesawlaw06.SetupAlike'. -/
def setupAlikeUptoCard : Claim7 := { stood := { row := setupAlikeUptoRow, standIns := [], harness := (true, "21576f133480cc7732188fd180f0838c14894fe59fafef06513ed297ae27d8be"), looks := false }, kinds := [], alts := [], laidByText := true, laidKinds := [.data], laidTests := true, laidLooks := .later }
def SetupAlikeUptoCardSaid : Prop := Claim7.holds Tryd.pinned (.plain (OpenSpec.upto setupAlikeSpec)) setupAlikeUptoCard

/-- THE SECOND FORM's CARD OF 'seesawlaw06.SetupLess'. -/
def setupLessUptoCard : Claim7 := { stood := { row := setupLessUptoRow, standIns := [], harness := (true, "21576f133480cc7732188fd180f0838c14894fe59fafef06513ed297ae27d8be"), looks := false }, kinds := [], alts := [], laidByText := true, laidKinds := [.data], laidTests := true, laidLooks := .later }
def SetupLessUptoCardSaid : Prop := Claim7.holds Tryd.pinned (.plain (OpenSpec.upto setupLessSpec)) setupLessUptoCard
end Rows
end Go.Proofs.YtnkdaehmdcpafaaDoor
