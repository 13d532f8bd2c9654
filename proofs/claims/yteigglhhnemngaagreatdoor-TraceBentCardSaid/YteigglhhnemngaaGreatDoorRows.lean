/-
  NARROWER THAN 'FOR EVERY INPUT', by the rows' own cells (each row's printed sentence says how): TraceNames: laid · TraceTells: laid · TraceBack: laid · TraceBody: laid · TraceBent: laid · TraceBegun: laid · TraceUnlike: laid.
  DERIVED. THE GIVEN ROWS OF THIS SEAT. 7 by the template 'for every input the law returns true; each argument reads behind the call as it read before'; 0 by the template 'total and deterministic' (their statements: YteigglhhnemngaaGreatDoorTotals.lean).
  GIVEN WITH THE SEED: the statements are not yours to turn. If you find one false, say at which input.
  Laid BY PROGRAM, IN A SANDBOX (cutbox-rows.mjs): the forced cells as the released guide's own fill.sh prints them over the translation f5fbec70b884e3be… (all of the seat's roots in one cut). By AI agents, Wed Nov 11 2026. No macro, syntax, notation, axiom, sorry.
-/
import Derived.Test.YteigglhhnemngaaGreatDoorChecked
import GoSem.Claim
import GoSem.ClaimJoined
import GoSem.ClaimMapViews
import Derived.JoinedTies
import Derived.KernelRfl
namespace Go.Proofs.YteigglhhnemngaaGreatDoor
/- THE CELL 'sum', in the pinned program and in every row, IS THE sha256 OF THE DUMP (.gsa) THAT YteigglhhnemngaaGreatDoorProg.lean LOADS. Nothing in Lean hashes anything: it is a label: what it is worth is what the hold of that sum in a sandbox is worth. -/
noncomputable def Tryz.pinned : Pinned := { name := "yteigglhhnemngaagreatdoor", sum := "f5fbec70b884e3be64ac195ee3c653fbe76ad4ce9981a887de4307fcc64e956b", checked := Tryz.checked }
namespace Rows
def none {H : Type} : Left H := { results := [], args := [] }

/- WHAT THE LISTED PACKAGE-LEVEL VARIABLES READ AS WHEN THE CALL BEGINS. Each datum BY PROGRAM (the guide's laid-datum.mjs) off the statement by which the dump's own 'gosem.cut.vars' lays the variable. In a bare row this is a premise. The card (YteigglhhnemngaaGreatDoorCards.lean) ties it to the program's text. -/
def laid_seesaw_event_names {H : Type} : DataW H := .agg [.lit (.string []), .lit (.string [98, 101, 103, 105, 110]), .lit (.string [108, 111, 111, 107]), .lit (.string [108, 111, 97, 100]), .lit (.string [108, 111, 99, 107]), .lit (.string [98, 117, 109, 112]), .lit (.string [99, 104, 101, 99, 107]), .lit (.string [99, 111, 109, 109, 105, 116]), .lit (.string [115, 116, 111, 114, 101]), .lit (.string [102, 114, 101, 101]), .lit (.string [97, 98, 111, 114, 116]), .lit (.string [117, 110, 100, 111]), .lit (.string [119, 97, 105, 116]), .lit (.string [119, 97, 107, 101])]
def laid_seesaw_seesawref12_names {H : Type} : DataW H := .agg [.lit (.string []), .lit (.string [98, 101, 103, 105, 110]), .lit (.string [108, 111, 111, 107]), .lit (.string [108, 111, 97, 100]), .lit (.string [108, 111, 99, 107]), .lit (.string [98, 117, 109, 112]), .lit (.string [99, 104, 101, 99, 107]), .lit (.string [99, 111, 109, 109, 105, 116]), .lit (.string [115, 116, 111, 114, 101]), .lit (.string [102, 114, 101, 101]), .lit (.string [97, 98, 111, 114, 116]), .lit (.string [117, 110, 100, 111]), .lit (.string [119, 97, 105, 116]), .lit (.string [119, 97, 107, 101])]

/-- 'seesawlaw15.TraceNames': WHATEVER THE INPUT: true; the input reads as it did. -/
def traceNamesSpec : ChangeSpec := { name := "traceNames", fn := fun _ => fun
  | [] => { results := [.lit (.bool true)], args := [] }
  | _ => none }
def traceNamesRow : OpenClaim := { program := "yteigglhhnemngaagreatdoor", sum := "f5fbec70b884e3be64ac195ee3c653fbe76ad4ce9981a887de4307fcc64e956b", func := "seesaw/seesawlaw15.TraceNames", spec := "traceNames", unfollowed := true, recurses := true, named := ["seesaw/event.names"], apart := false, laid := [("seesaw/event.names", laid_seesaw_event_names)] }
def TraceNamesSaid : Prop := traceNamesRow.holds Tryz.pinned (OpenSpec.ofChange traceNamesSpec)

/-- ITS FALSE NEIGHBOUR: 'it returns false'. Refute it at one input. -/
def traceNamesWrong : ChangeSpec := { name := "traceNames", fn := fun _ => fun
  | [] => { results := [.lit (.bool false)], args := [] }
  | _ => none }
def TraceNamesWrongFalsely : Prop := traceNamesRow.holds Tryz.pinned (OpenSpec.ofChange traceNamesWrong)

/-- 'seesawlaw15.TraceTells': WHATEVER THE INPUT: true; the input reads as it did. -/
def traceTellsSpec : ChangeSpec := { name := "traceTells", fn := fun _ => fun
  | [d1, d2, d3] => { results := [.lit (.bool true)], args := [d1, d2, d3] }
  | _ => none }
def traceTellsRow : OpenClaim := { program := "yteigglhhnemngaagreatdoor", sum := "f5fbec70b884e3be64ac195ee3c653fbe76ad4ce9981a887de4307fcc64e956b", func := "seesaw/seesawlaw15.TraceTells", spec := "traceTells", unfollowed := true, recurses := true, named := ["seesaw/event.names", "seesaw/seesawref12.names"], apart := false, laid := [("seesaw/seesawref12.names", laid_seesaw_seesawref12_names), ("seesaw/event.names", laid_seesaw_event_names)] }
def TraceTellsSaid : Prop := traceTellsRow.holds Tryz.pinned (OpenSpec.ofChange traceTellsSpec)

/-- ITS FALSE NEIGHBOUR: 'it returns false'. Refute it at one input. -/
def traceTellsWrong : ChangeSpec := { name := "traceTells", fn := fun _ => fun
  | [d1, d2, d3] => { results := [.lit (.bool false)], args := [d1, d2, d3] }
  | _ => none }
def TraceTellsWrongFalsely : Prop := traceTellsRow.holds Tryz.pinned (OpenSpec.ofChange traceTellsWrong)

/-- 'seesawlaw15.TraceBack': WHATEVER THE INPUT: true; the input reads as it did. -/
def traceBackSpec : ChangeSpec := { name := "traceBack", fn := fun _ => fun
  | [d1, d2] => { results := [.lit (.bool true)], args := [d1, d2] }
  | _ => none }
def traceBackRow : OpenClaim := { program := "yteigglhhnemngaagreatdoor", sum := "f5fbec70b884e3be64ac195ee3c653fbe76ad4ce9981a887de4307fcc64e956b", func := "seesaw/seesawlaw15.TraceBack", spec := "traceBack", unfollowed := true, recurses := true, named := ["seesaw/event.names"], apart := false, laid := [("seesaw/event.names", laid_seesaw_event_names)] }
def TraceBackSaid : Prop := traceBackRow.holds Tryz.pinned (OpenSpec.ofChange traceBackSpec)

/-- ITS FALSE NEIGHBOUR: 'it returns false'. Refute it at one input. -/
def traceBackWrong : ChangeSpec := { name := "traceBack", fn := fun _ => fun
  | [d1, d2] => { results := [.lit (.bool false)], args := [d1, d2] }
  | _ => none }
def TraceBackWrongFalsely : Prop := traceBackRow.holds Tryz.pinned (OpenSpec.ofChange traceBackWrong)

/-- 'seesawlaw15.TraceBody': WHATEVER THE INPUT: true; the input reads as it did. -/
def traceBodySpec : ChangeSpec := { name := "traceBody", fn := fun _ => fun
  | [d] => { results := [.lit (.bool true)], args := [d] }
  | _ => none }
def traceBodyRow : OpenClaim := { program := "yteigglhhnemngaagreatdoor", sum := "f5fbec70b884e3be64ac195ee3c653fbe76ad4ce9981a887de4307fcc64e956b", func := "seesaw/seesawlaw15.TraceBody", spec := "traceBody", unfollowed := true, recurses := true, named := ["seesaw/event.names"], apart := false, laid := [("seesaw/event.names", laid_seesaw_event_names)] }
def TraceBodySaid : Prop := traceBodyRow.holds Tryz.pinned (OpenSpec.ofChange traceBodySpec)

/-- ITS FALSE NEIGHBOUR: 'it returns false'. Refute it at one input. -/
def traceBodyWrong : ChangeSpec := { name := "traceBody", fn := fun _ => fun
  | [d] => { results := [.lit (.bool false)], args := [d] }
  | _ => none }
def TraceBodyWrongFalsely : Prop := traceBodyRow.holds Tryz.pinned (OpenSpec.ofChange traceBodyWrong)

/-- 'seesawlaw15.TraceBent': WHATEVER THE INPUT: true; the input reads as it did. -/
def traceBentSpec : ChangeSpec := { name := "traceBent", fn := fun _ => fun
  | [d1, d2, d3, d4] => { results := [.lit (.bool true)], args := [d1, d2, d3, d4] }
  | _ => none }
def traceBentRow : OpenClaim := { program := "yteigglhhnemngaagreatdoor", sum := "f5fbec70b884e3be64ac195ee3c653fbe76ad4ce9981a887de4307fcc64e956b", func := "seesaw/seesawlaw15.TraceBent", spec := "traceBent", unfollowed := true, recurses := true, named := ["seesaw/event.names"], apart := false, laid := [("seesaw/event.names", laid_seesaw_event_names)] }
def TraceBentSaid : Prop := traceBentRow.holds Tryz.pinned (OpenSpec.ofChange traceBentSpec)

/-- ITS FALSE NEIGHBOUR: 'it returns false'. Refute it at one input. -/
def traceBentWrong : ChangeSpec := { name := "traceBent", fn := fun _ => fun
  | [d1, d2, d3, d4] => { results := [.lit (.bool false)], args := [d1, d2, d3, d4] }
  | _ => none }
def TraceBentWrongFalsely : Prop := traceBentRow.holds Tryz.pinned (OpenSpec.ofChange traceBentWrong)

/-- 'seesawlaw15.TraceBegun': WHATEVER THE INPUT: true; the input reads as it did. -/
def traceBegunSpec : ChangeSpec := { name := "traceBegun", fn := fun _ => fun
  | [d1, d2] => { results := [.lit (.bool true)], args := [d1, d2] }
  | _ => none }
def traceBegunRow : OpenClaim := { program := "yteigglhhnemngaagreatdoor", sum := "f5fbec70b884e3be64ac195ee3c653fbe76ad4ce9981a887de4307fcc64e956b", func := "seesaw/seesawlaw15.TraceBegun", spec := "traceBegun", unfollowed := true, recurses := true, named := ["seesaw/event.names"], apart := false, laid := [("seesaw/event.names", laid_seesaw_event_names)] }
def TraceBegunSaid : Prop := traceBegunRow.holds Tryz.pinned (OpenSpec.ofChange traceBegunSpec)

/-- ITS FALSE NEIGHBOUR: 'it returns false'. Refute it at one input. -/
def traceBegunWrong : ChangeSpec := { name := "traceBegun", fn := fun _ => fun
  | [d1, d2] => { results := [.lit (.bool false)], args := [d1, d2] }
  | _ => none }
def TraceBegunWrongFalsely : Prop := traceBegunRow.holds Tryz.pinned (OpenSpec.ofChange traceBegunWrong)

/-- 'seesawlaw15.TraceUnlike': WHATEVER THE INPUT: true; the input reads as it did. -/
def traceUnlikeSpec : ChangeSpec := { name := "traceUnlike", fn := fun _ => fun
  | [d1, d2] => { results := [.lit (.bool true)], args := [d1, d2] }
  | _ => none }
def traceUnlikeRow : OpenClaim := { program := "yteigglhhnemngaagreatdoor", sum := "f5fbec70b884e3be64ac195ee3c653fbe76ad4ce9981a887de4307fcc64e956b", func := "seesaw/seesawlaw15.TraceUnlike", spec := "traceUnlike", unfollowed := true, recurses := true, named := ["seesaw/event.names"], apart := false, laid := [("seesaw/event.names", laid_seesaw_event_names)] }
def TraceUnlikeSaid : Prop := traceUnlikeRow.holds Tryz.pinned (OpenSpec.ofChange traceUnlikeSpec)

/-- ITS FALSE NEIGHBOUR: 'it returns false'. Refute it at one input. -/
def traceUnlikeWrong : ChangeSpec := { name := "traceUnlike", fn := fun _ => fun
  | [d1, d2] => { results := [.lit (.bool false)], args := [d1, d2] }
  | _ => none }
def TraceUnlikeWrongFalsely : Prop := traceUnlikeRow.holds Tryz.pinned (OpenSpec.ofChange traceUnlikeWrong)

/- THE SECOND FORM. 'bulk': how many values and letters a reading holds, each counted each time it is reached (what is shared counts as often as it is met; a slice's spare places count too). A statement '..UptoSaid' is the law's where the arguments, and the package variables that the reading takes, are together of bulk at most 1048576: NARROWER than '..Said'. Prove '..Said' where nothing that the law and all that it calls make is longer than what came in: it says more and counts as full. Else prove '..UptoSaid'. A law counts once. -/
mutual
def uptoBulk {H : Type} : DataW H → Nat
  | .lit (.string bytes) => bytes.length + 1
  | .lit _ => 1
  | .nil => 1
  | .ptr d => uptoBulk d + 1
  | .slice elems spare => uptoBulkAll elems + uptoBulkAll spare + 1
  | .agg parts => uptoBulkAll parts + 1
  | .iface _ d => uptoBulk d + 1
  | .map entries => uptoBulkEntries entries + 1
  | .held _ => 1
def uptoBulkAll {H : Type} : List (DataW H) → Nat
  | [] => 0
  | d :: r => uptoBulk d + uptoBulkAll r
def uptoBulkEntries {H : Type} : List (Lit × DataW H) → Nat
  | [] => 0
  | x :: r => uptoBulkEntry x + uptoBulkEntries r
def uptoBulkEntry {H : Type} : Lit × DataW H → Nat
  | (.string bytes, d) => bytes.length + uptoBulk d + 1
  | (_, d) => uptoBulk d + 1
 end
def uptoSmall : (H : Type) → List (DataW H) → Bool := fun _ ds => decide (uptoBulkAll ds ≤ 1048576)
def OpenSpec.upto (s : _root_.Go.ChangeSpec) : _root_.Go.OpenSpec := { _root_.Go.OpenSpec.ofChange s with cond := some uptoSmall }

/-- 'seesawlaw15.TraceNames', WHERE WHAT IT READS IS OF BULK AT MOST 1048576: true; the input reads as it did. -/
def traceNamesUptoRow : OpenClaim := { program := "yteigglhhnemngaagreatdoor", sum := "f5fbec70b884e3be64ac195ee3c653fbe76ad4ce9981a887de4307fcc64e956b", func := "seesaw/seesawlaw15.TraceNames", spec := "traceNames", unfollowed := true, recurses := true, named := ["seesaw/event.names"], apart := false, laid := [("seesaw/event.names", laid_seesaw_event_names)], narrowed := true }
def TraceNamesUptoSaid : Prop := traceNamesUptoRow.holds Tryz.pinned (OpenSpec.upto traceNamesSpec)

/-- 'seesawlaw15.TraceTells', WHERE WHAT IT READS IS OF BULK AT MOST 1048576: true; the input reads as it did. -/
def traceTellsUptoRow : OpenClaim := { program := "yteigglhhnemngaagreatdoor", sum := "f5fbec70b884e3be64ac195ee3c653fbe76ad4ce9981a887de4307fcc64e956b", func := "seesaw/seesawlaw15.TraceTells", spec := "traceTells", unfollowed := true, recurses := true, named := ["seesaw/event.names", "seesaw/seesawref12.names"], apart := false, laid := [("seesaw/seesawref12.names", laid_seesaw_seesawref12_names), ("seesaw/event.names", laid_seesaw_event_names)], narrowed := true }
def TraceTellsUptoSaid : Prop := traceTellsUptoRow.holds Tryz.pinned (OpenSpec.upto traceTellsSpec)

/-- 'seesawlaw15.TraceBack', WHERE WHAT IT READS IS OF BULK AT MOST 1048576: true; the input reads as it did. -/
def traceBackUptoRow : OpenClaim := { program := "yteigglhhnemngaagreatdoor", sum := "f5fbec70b884e3be64ac195ee3c653fbe76ad4ce9981a887de4307fcc64e956b", func := "seesaw/seesawlaw15.TraceBack", spec := "traceBack", unfollowed := true, recurses := true, named := ["seesaw/event.names"], apart := false, laid := [("seesaw/event.names", laid_seesaw_event_names)], narrowed := true }
def TraceBackUptoSaid : Prop := traceBackUptoRow.holds Tryz.pinned (OpenSpec.upto traceBackSpec)

/-- 'seesawlaw15.TraceBody', WHERE WHAT IT READS IS OF BULK AT MOST 1048576: true; the input reads as it did. -/
def traceBodyUptoRow : OpenClaim := { program := "yteigglhhnemngaagreatdoor", sum := "f5fbec70b884e3be64ac195ee3c653fbe76ad4ce9981a887de4307fcc64e956b", func := "seesaw/seesawlaw15.TraceBody", spec := "traceBody", unfollowed := true, recurses := true, named := ["seesaw/event.names"], apart := false, laid := [("seesaw/event.names", laid_seesaw_event_names)], narrowed := true }
def TraceBodyUptoSaid : Prop := traceBodyUptoRow.holds Tryz.pinned (OpenSpec.upto traceBodySpec)

/-- 'seesawlaw15.TraceBent', WHERE WHAT IT READS IS OF BULK AT MOST 1048576: true; the input reads as it did. -/
def traceBentUptoRow : OpenClaim := { program := "yteigglhhnemngaagreatdoor", sum := "f5fbec70b884e3be64ac195ee3c653fbe76ad4ce9981a887de4307fcc64e956b", func := "seesaw/seesawlaw15.TraceBent", spec := "traceBent", unfollowed := true, recurses := true, named := ["seesaw/event.names"], apart := false, laid := [("seesaw/event.names", laid_seesaw_event_names)], narrowed := true }
def TraceBentUptoSaid : Prop := traceBentUptoRow.holds Tryz.pinned (OpenSpec.upto traceBentSpec)

/-- 'seesawlaw15.TraceBegun', WHERE WHAT IT READS IS OF BULK AT MOST 1048576: true; the input reads as it did. -/
def traceBegunUptoRow : OpenClaim := { program := "yteigglhhnemngaagreatdoor", sum := "f5fbec70b884e3be64ac195ee3c653fbe76ad4ce9981a887de4307fcc64e956b", func := "seesaw/seesawlaw15.TraceBegun", spec := "traceBegun", unfollowed := true, recurses := true, named := ["seesaw/event.names"], apart := false, laid := [("seesaw/event.names", laid_seesaw_event_names)], narrowed := true }
def TraceBegunUptoSaid : Prop := traceBegunUptoRow.holds Tryz.pinned (OpenSpec.upto traceBegunSpec)

/-- 'seesawlaw15.TraceUnlike', WHERE WHAT IT READS IS OF BULK AT MOST 1048576: true; the input reads as it did. -/
def traceUnlikeUptoRow : OpenClaim := { program := "yteigglhhnemngaagreatdoor", sum := "f5fbec70b884e3be64ac195ee3c653fbe76ad4ce9981a887de4307fcc64e956b", func := "seesaw/seesawlaw15.TraceUnlike", spec := "traceUnlike", unfollowed := true, recurses := true, named := ["seesaw/event.names"], apart := false, laid := [("seesaw/event.names", laid_seesaw_event_names)], narrowed := true }
def TraceUnlikeUptoSaid : Prop := traceUnlikeUptoRow.holds Tryz.pinned (OpenSpec.upto traceUnlikeSpec)

end Rows
end Go.Proofs.YteigglhhnemngaaGreatDoor
