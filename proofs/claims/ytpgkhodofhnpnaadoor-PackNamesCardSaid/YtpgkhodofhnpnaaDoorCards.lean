/-
  DERIVED. GIVEN WITH THE SEED: THE CARDS: each row of YtpgkhodofhnpnaaDoorRows.lean that lists a variable, with what it lists TIED to the program's text (the seventh form; the later family's looks); each row that meets fmt, with fmt's text TOLD by the authors' own Lean function (tested against real Go, not proved from fmt's source: count such statements apart). THE CARD IS WHAT COUNTS. Prove the row's statement (the work); the ties are given (YtpgkhodofhnpnaaDoorTie.lean); close each card by the builder's one call (the guide's Derived/Test/ToyasCard.lean, 'card_holds'). Laid BY PROGRAM, IN A SANDBOX (cutbox-door.mjs). By AI agents, Wed Nov 11 2026. No macro, syntax, notation, axiom, sorry.
-/
import Derived.Test.YtpgkhodofhnpnaaDoorRows
import GoSem.ClaimSeven
namespace Go.Proofs.YtpgkhodofhnpnaaDoor
namespace Rows

/-- THE TIED CARD OF 'seesawlaw07.PackNames'. -/
def packNamesCard : Claim7 := { stood := { row := packNamesRow, standIns := [], harness := (true, "dd04c514d6f405ac978468cf9a0c5ca7ad200edc45ac7e6d37590dbfbd9408b4"), looks := false }, kinds := [], alts := [], laidByText := true, laidKinds := [.data, .data], laidTests := true, laidLooks := .later }
def PackNamesCardSaid : Prop := Claim7.holds Tryd.pinned (.plain (OpenSpec.ofChange packNamesSpec)) packNamesCard

/-- THE TIED CARD OF 'seesawlaw07.PackBody'. -/
def packBodyCard : Claim7 := { stood := { row := packBodyRow, standIns := [], harness := (true, "dd04c514d6f405ac978468cf9a0c5ca7ad200edc45ac7e6d37590dbfbd9408b4"), looks := false }, kinds := [], alts := [], laidByText := true, laidKinds := [.data, .data], laidTests := true, laidLooks := .later }
def PackBodyCardSaid : Prop := Claim7.holds Tryd.pinned (.plain (OpenSpec.ofChange packBodySpec)) packBodyCard

/-- THE SECOND FORM's CARD OF 'seesawlaw07.PackNames'. -/
def packNamesUptoCard : Claim7 := { stood := { row := packNamesUptoRow, standIns := [], harness := (true, "dd04c514d6f405ac978468cf9a0c5ca7ad200edc45ac7e6d37590dbfbd9408b4"), looks := false }, kinds := [], alts := [], laidByText := true, laidKinds := [.data, .data], laidTests := true, laidLooks := .later }
def PackNamesUptoCardSaid : Prop := Claim7.holds Tryd.pinned (.plain (OpenSpec.upto packNamesSpec)) packNamesUptoCard

/-- THE SECOND FORM's CARD OF 'seesawlaw07.PackBody'. -/
def packBodyUptoCard : Claim7 := { stood := { row := packBodyUptoRow, standIns := [], harness := (true, "dd04c514d6f405ac978468cf9a0c5ca7ad200edc45ac7e6d37590dbfbd9408b4"), looks := false }, kinds := [], alts := [], laidByText := true, laidKinds := [.data, .data], laidTests := true, laidLooks := .later }
def PackBodyUptoCardSaid : Prop := Claim7.holds Tryd.pinned (.plain (OpenSpec.upto packBodySpec)) packBodyUptoCard
end Rows
end Go.Proofs.YtpgkhodofhnpnaaDoor
