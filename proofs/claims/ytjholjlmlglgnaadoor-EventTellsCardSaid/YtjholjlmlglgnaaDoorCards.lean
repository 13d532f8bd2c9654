/-
  DERIVED. GIVEN WITH THE SEED: THE CARDS: each row of YtjholjlmlglgnaaDoorRows.lean that lists a variable, with what it lists TIED to the program's text (the seventh form; the later family's looks); each row that meets fmt, with fmt's text TOLD by the authors' own Lean function (tested against real Go, not proved from fmt's source: count such statements apart). THE CARD IS WHAT COUNTS. Prove the row's statement (the work); the ties are given (YtjholjlmlglgnaaDoorTie.lean); close each card by the builder's one call (the guide's Derived/Test/ToyasCard.lean, 'card_holds'). Laid BY PROGRAM, IN A SANDBOX (cutbox-door.mjs). By AI agents, Wed Nov 11 2026. No macro, syntax, notation, axiom, sorry.
-/
import Derived.Test.YtjholjlmlglgnaaDoorRows
import GoSem.ClaimSeven
namespace Go.Proofs.YtjholjlmlglgnaaDoor
namespace Rows

/-- THE TIED CARD OF 'seesawlaw12.EventTells'. -/
def eventTellsCard : Claim7 := { stood := { row := eventTellsRow, standIns := [], harness := (true, "0092cffef1d85c97c42ec13636f1570bd48e7435010b82f36be341dfcbb062c2"), looks := true }, kinds := [], alts := [], laidByText := true, laidKinds := [.data, .data, .data, .sentinel, .sentinel, .data, .data], laidTests := true, laidLooks := .later }
def EventTellsCardSaid : Prop := Claim7.holds Tryd.pinned (.plain (OpenSpec.ofChange eventTellsSpec)) eventTellsCard

/-- THE TIED CARD OF 'seesawlaw12.EventTexts'. -/
def eventTextsCard : Claim7 := { stood := { row := eventTextsRow, standIns := [], harness := (true, "0092cffef1d85c97c42ec13636f1570bd48e7435010b82f36be341dfcbb062c2"), looks := true }, kinds := [], alts := [], laidByText := true, laidKinds := [.data, .data, .data, .sentinel, .sentinel, .data, .data], laidTests := true, laidLooks := .later }
def EventTextsCardSaid : Prop := Claim7.holds Tryd.pinned (.plain (OpenSpec.ofChange eventTextsSpec)) eventTextsCard

/-- THE TIED CARD OF 'seesawlaw12.EventNames'. -/
def eventNamesCard : Claim7 := { stood := { row := eventNamesRow, standIns := [], harness := (true, "0092cffef1d85c97c42ec13636f1570bd48e7435010b82f36be341dfcbb062c2"), looks := true }, kinds := [], alts := [], laidByText := true, laidKinds := [.data, .data, .data, .sentinel, .sentinel, .data], laidTests := true, laidLooks := .later }
def EventNamesCardSaid : Prop := Claim7.holds Tryd.pinned (.plain (OpenSpec.ofChange eventNamesSpec)) eventNamesCard

/-- THE TIED CARD OF 'seesawlaw12.EventBack'. -/
def eventBackCard : Claim7 := { stood := { row := eventBackRow, standIns := [], harness := (true, "0092cffef1d85c97c42ec13636f1570bd48e7435010b82f36be341dfcbb062c2"), looks := true }, kinds := [], alts := [], laidByText := true, laidKinds := [.data, .data, .data, .sentinel, .sentinel, .data], laidTests := true, laidLooks := .later }
def EventBackCardSaid : Prop := Claim7.holds Tryd.pinned (.plain (OpenSpec.ofChange eventBackSpec)) eventBackCard

/-- THE TIED CARD OF 'seesawlaw12.EventJust'. -/
def eventJustCard : Claim7 := { stood := { row := eventJustRow, standIns := [], harness := (true, "0092cffef1d85c97c42ec13636f1570bd48e7435010b82f36be341dfcbb062c2"), looks := true }, kinds := [], alts := [], laidByText := true, laidKinds := [.data, .data, .data, .sentinel, .sentinel, .data], laidTests := true, laidLooks := .later }
def EventJustCardSaid : Prop := Claim7.holds Tryd.pinned (.plain (OpenSpec.ofChange eventJustSpec)) eventJustCard

/-- THE TIED CARD OF 'seesawlaw12.EventMore'. -/
def eventMoreCard : Claim7 := { stood := { row := eventMoreRow, standIns := [], harness := (true, "0092cffef1d85c97c42ec13636f1570bd48e7435010b82f36be341dfcbb062c2"), looks := true }, kinds := [], alts := [], laidByText := true, laidKinds := [.data, .data, .data, .sentinel, .sentinel, .data], laidTests := true, laidLooks := .later }
def EventMoreCardSaid : Prop := Claim7.holds Tryd.pinned (.plain (OpenSpec.ofChange eventMoreSpec)) eventMoreCard

/-- THE SECOND FORM's CARD OF 'seesawlaw12.EventTells'. -/
def eventTellsUptoCard : Claim7 := { stood := { row := eventTellsUptoRow, standIns := [], harness := (true, "0092cffef1d85c97c42ec13636f1570bd48e7435010b82f36be341dfcbb062c2"), looks := true }, kinds := [], alts := [], laidByText := true, laidKinds := [.data, .data, .data, .sentinel, .sentinel, .data, .data], laidTests := true, laidLooks := .later }
def EventTellsUptoCardSaid : Prop := Claim7.holds Tryd.pinned (.plain (OpenSpec.upto eventTellsSpec)) eventTellsUptoCard

/-- THE SECOND FORM's CARD OF 'seesawlaw12.EventTexts'. -/
def eventTextsUptoCard : Claim7 := { stood := { row := eventTextsUptoRow, standIns := [], harness := (true, "0092cffef1d85c97c42ec13636f1570bd48e7435010b82f36be341dfcbb062c2"), looks := true }, kinds := [], alts := [], laidByText := true, laidKinds := [.data, .data, .data, .sentinel, .sentinel, .data, .data], laidTests := true, laidLooks := .later }
def EventTextsUptoCardSaid : Prop := Claim7.holds Tryd.pinned (.plain (OpenSpec.upto eventTextsSpec)) eventTextsUptoCard

/-- THE SECOND FORM's CARD OF 'seesawlaw12.EventNames'. -/
def eventNamesUptoCard : Claim7 := { stood := { row := eventNamesUptoRow, standIns := [], harness := (true, "0092cffef1d85c97c42ec13636f1570bd48e7435010b82f36be341dfcbb062c2"), looks := true }, kinds := [], alts := [], laidByText := true, laidKinds := [.data, .data, .data, .sentinel, .sentinel, .data], laidTests := true, laidLooks := .later }
def EventNamesUptoCardSaid : Prop := Claim7.holds Tryd.pinned (.plain (OpenSpec.upto eventNamesSpec)) eventNamesUptoCard

/-- THE SECOND FORM's CARD OF 'seesawlaw12.EventBack'. -/
def eventBackUptoCard : Claim7 := { stood := { row := eventBackUptoRow, standIns := [], harness := (true, "0092cffef1d85c97c42ec13636f1570bd48e7435010b82f36be341dfcbb062c2"), looks := true }, kinds := [], alts := [], laidByText := true, laidKinds := [.data, .data, .data, .sentinel, .sentinel, .data], laidTests := true, laidLooks := .later }
def EventBackUptoCardSaid : Prop := Claim7.holds Tryd.pinned (.plain (OpenSpec.upto eventBackSpec)) eventBackUptoCard

/-- THE SECOND FORM's CARD OF 'seesawlaw12.EventJust'. -/
def eventJustUptoCard : Claim7 := { stood := { row := eventJustUptoRow, standIns := [], harness := (true, "0092cffef1d85c97c42ec13636f1570bd48e7435010b82f36be341dfcbb062c2"), looks := true }, kinds := [], alts := [], laidByText := true, laidKinds := [.data, .data, .data, .sentinel, .sentinel, .data], laidTests := true, laidLooks := .later }
def EventJustUptoCardSaid : Prop := Claim7.holds Tryd.pinned (.plain (OpenSpec.upto eventJustSpec)) eventJustUptoCard

/-- THE SECOND FORM's CARD OF 'seesawlaw12.EventMore'. -/
def eventMoreUptoCard : Claim7 := { stood := { row := eventMoreUptoRow, standIns := [], harness := (true, "0092cffef1d85c97c42ec13636f1570bd48e7435010b82f36be341dfcbb062c2"), looks := true }, kinds := [], alts := [], laidByText := true, laidKinds := [.data, .data, .data, .sentinel, .sentinel, .data], laidTests := true, laidLooks := .later }
def EventMoreUptoCardSaid : Prop := Claim7.holds Tryd.pinned (.plain (OpenSpec.upto eventMoreSpec)) eventMoreUptoCard
end Rows
end Go.Proofs.YtjholjlmlglgnaaDoor
