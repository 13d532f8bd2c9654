/-
  DERIVED. GIVEN WITH THE SEED: THE CARDS: each row of YteigglhhnemngaaGreatDoorRows.lean that lists a variable, with what it lists TIED to the program's text (the seventh form; the later family's looks); each row that meets fmt, with fmt's text TOLD by the authors' own Lean function (tested against real Go, not proved from fmt's source: count such statements apart). THE CARD IS WHAT COUNTS. Prove the row's statement (the work); the ties are given (YteigglhhnemngaaGreatDoorTie.lean); close each card by the builder's one call (the guide's Derived/Test/ToyasCard.lean, 'card_holds'). Laid BY PROGRAM, IN A SANDBOX (cutbox-door.mjs). By AI agents, Wed Nov 11 2026. No macro, syntax, notation, axiom, sorry.
-/
import Derived.Test.YteigglhhnemngaaGreatDoorRows
import GoSem.ClaimSeven
namespace Go.Proofs.YteigglhhnemngaaGreatDoor
namespace Rows

/-- THE TIED CARD OF 'seesawlaw15.TraceNames'. -/
def traceNamesCard : Claim7 := { stood := { row := traceNamesRow, standIns := [], harness := (true, "f894efe4401885ac69d82151ebed4c29374cb4f739464fa7f381c8b2ffc53a63"), looks := false }, kinds := [], alts := [], laidByText := true, laidKinds := [.data], laidTests := true, laidLooks := .later }
def TraceNamesCardSaid : Prop := Claim7.holds Tryz.pinned (.plain (OpenSpec.ofChange traceNamesSpec)) traceNamesCard

/-- THE TIED CARD OF 'seesawlaw15.TraceTells'. -/
def traceTellsCard : Claim7 := { stood := { row := traceTellsRow, standIns := [], harness := (true, "f894efe4401885ac69d82151ebed4c29374cb4f739464fa7f381c8b2ffc53a63"), looks := false }, kinds := [], alts := [], laidByText := true, laidKinds := [.data, .data], laidTests := true, laidLooks := .later }
def TraceTellsCardSaid : Prop := Claim7.holds Tryz.pinned (.plain (OpenSpec.ofChange traceTellsSpec)) traceTellsCard

/-- THE TIED CARD OF 'seesawlaw15.TraceBack'. -/
def traceBackCard : Claim7 := { stood := { row := traceBackRow, standIns := [], harness := (true, "f894efe4401885ac69d82151ebed4c29374cb4f739464fa7f381c8b2ffc53a63"), looks := false }, kinds := [], alts := [], laidByText := true, laidKinds := [.data], laidTests := true, laidLooks := .later }
def TraceBackCardSaid : Prop := Claim7.holds Tryz.pinned (.plain (OpenSpec.ofChange traceBackSpec)) traceBackCard

/-- THE TIED CARD OF 'seesawlaw15.TraceBody'. -/
def traceBodyCard : Claim7 := { stood := { row := traceBodyRow, standIns := [], harness := (true, "f894efe4401885ac69d82151ebed4c29374cb4f739464fa7f381c8b2ffc53a63"), looks := false }, kinds := [], alts := [], laidByText := true, laidKinds := [.data], laidTests := true, laidLooks := .later }
def TraceBodyCardSaid : Prop := Claim7.holds Tryz.pinned (.plain (OpenSpec.ofChange traceBodySpec)) traceBodyCard

/-- THE TIED CARD OF 'seesawlaw15.TraceBent'. -/
def traceBentCard : Claim7 := { stood := { row := traceBentRow, standIns := [], harness := (true, "f894efe4401885ac69d82151ebed4c29374cb4f739464fa7f381c8b2ffc53a63"), looks := false }, kinds := [], alts := [], laidByText := true, laidKinds := [.data], laidTests := true, laidLooks := .later }
def TraceBentCardSaid : Prop := Claim7.holds Tryz.pinned (.plain (OpenSpec.ofChange traceBentSpec)) traceBentCard

/-- THE TIED CARD OF 'seesawlaw15.TraceBegun'. -/
def traceBegunCard : Claim7 := { stood := { row := traceBegunRow, standIns := [], harness := (true, "f894efe4401885ac69d82151ebed4c29374cb4f739464fa7f381c8b2ffc53a63"), looks := false }, kinds := [], alts := [], laidByText := true, laidKinds := [.data], laidTests := true, laidLooks := .later }
def TraceBegunCardSaid : Prop := Claim7.holds Tryz.pinned (.plain (OpenSpec.ofChange traceBegunSpec)) traceBegunCard

/-- THE TIED CARD OF 'seesawlaw15.TraceUnlike'. -/
def traceUnlikeCard : Claim7 := { stood := { row := traceUnlikeRow, standIns := [], harness := (true, "f894efe4401885ac69d82151ebed4c29374cb4f739464fa7f381c8b2ffc53a63"), looks := false }, kinds := [], alts := [], laidByText := true, laidKinds := [.data], laidTests := true, laidLooks := .later }
def TraceUnlikeCardSaid : Prop := Claim7.holds Tryz.pinned (.plain (OpenSpec.ofChange traceUnlikeSpec)) traceUnlikeCard

/-- THE SECOND FORM's CARD OF 'seesawlaw15.TraceNames'. -/
def traceNamesUptoCard : Claim7 := { stood := { row := traceNamesUptoRow, standIns := [], harness := (true, "f894efe4401885ac69d82151ebed4c29374cb4f739464fa7f381c8b2ffc53a63"), looks := false }, kinds := [], alts := [], laidByText := true, laidKinds := [.data], laidTests := true, laidLooks := .later }
def TraceNamesUptoCardSaid : Prop := Claim7.holds Tryz.pinned (.plain (OpenSpec.upto traceNamesSpec)) traceNamesUptoCard

/-- THE SECOND FORM's CARD OF 'seesawlaw15.TraceTells'. -/
def traceTellsUptoCard : Claim7 := { stood := { row := traceTellsUptoRow, standIns := [], harness := (true, "f894efe4401885ac69d82151ebed4c29374cb4f739464fa7f381c8b2ffc53a63"), looks := false }, kinds := [], alts := [], laidByText := true, laidKinds := [.data, .data], laidTests := true, laidLooks := .later }
def TraceTellsUptoCardSaid : Prop := Claim7.holds Tryz.pinned (.plain (OpenSpec.upto traceTellsSpec)) traceTellsUptoCard

/-- THE SECOND FORM's CARD OF 'seesawlaw15.TraceBack'. -/
def traceBackUptoCard : Claim7 := { stood := { row := traceBackUptoRow, standIns := [], harness := (true, "f894efe4401885ac69d82151ebed4c29374cb4f739464fa7f381c8b2ffc53a63"), looks := false }, kinds := [], alts := [], laidByText := true, laidKinds := [.data], laidTests := true, laidLooks := .later }
def TraceBackUptoCardSaid : Prop := Claim7.holds Tryz.pinned (.plain (OpenSpec.upto traceBackSpec)) traceBackUptoCard

/-- THE SECOND FORM's CARD OF 'seesawlaw15.TraceBody'. -/
def traceBodyUptoCard : Claim7 := { stood := { row := traceBodyUptoRow, standIns := [], harness := (true, "f894efe4401885ac69d82151ebed4c29374cb4f739464fa7f381c8b2ffc53a63"), looks := false }, kinds := [], alts := [], laidByText := true, laidKinds := [.data], laidTests := true, laidLooks := .later }
def TraceBodyUptoCardSaid : Prop := Claim7.holds Tryz.pinned (.plain (OpenSpec.upto traceBodySpec)) traceBodyUptoCard

/-- THE SECOND FORM's CARD OF 'seesawlaw15.TraceBent'. -/
def traceBentUptoCard : Claim7 := { stood := { row := traceBentUptoRow, standIns := [], harness := (true, "f894efe4401885ac69d82151ebed4c29374cb4f739464fa7f381c8b2ffc53a63"), looks := false }, kinds := [], alts := [], laidByText := true, laidKinds := [.data], laidTests := true, laidLooks := .later }
def TraceBentUptoCardSaid : Prop := Claim7.holds Tryz.pinned (.plain (OpenSpec.upto traceBentSpec)) traceBentUptoCard

/-- THE SECOND FORM's CARD OF 'seesawlaw15.TraceBegun'. -/
def traceBegunUptoCard : Claim7 := { stood := { row := traceBegunUptoRow, standIns := [], harness := (true, "f894efe4401885ac69d82151ebed4c29374cb4f739464fa7f381c8b2ffc53a63"), looks := false }, kinds := [], alts := [], laidByText := true, laidKinds := [.data], laidTests := true, laidLooks := .later }
def TraceBegunUptoCardSaid : Prop := Claim7.holds Tryz.pinned (.plain (OpenSpec.upto traceBegunSpec)) traceBegunUptoCard

/-- THE SECOND FORM's CARD OF 'seesawlaw15.TraceUnlike'. -/
def traceUnlikeUptoCard : Claim7 := { stood := { row := traceUnlikeUptoRow, standIns := [], harness := (true, "f894efe4401885ac69d82151ebed4c29374cb4f739464fa7f381c8b2ffc53a63"), looks := false }, kinds := [], alts := [], laidByText := true, laidKinds := [.data], laidTests := true, laidLooks := .later }
def TraceUnlikeUptoCardSaid : Prop := Claim7.holds Tryz.pinned (.plain (OpenSpec.upto traceUnlikeSpec)) traceUnlikeUptoCard
end Rows
end Go.Proofs.YteigglhhnemngaaGreatDoor
