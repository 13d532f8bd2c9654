/-
  NARROWER THAN 'FOR EVERY INPUT', by the rows' own cells (each row's printed sentence says how): ShapeChecks: laid · DeltaWrites: laid · DeltaReads: laid.
  DERIVED. THE GIVEN ROWS OF THIS SEAT. 3 by the template 'for every input the law returns true; each argument reads behind the call as it read before'; 0 by the template 'total and deterministic' (their statements: YtkfcglgikemefaaDoorTotals.lean).
  GIVEN WITH THE SEED: the statements are not yours to turn. If you find one false, say at which input.
  Laid BY PROGRAM, IN A SANDBOX (cutbox-rows.mjs): the forced cells as the released guide's own fill.sh prints them over the translation 65d59c93a796efb6… (all of the seat's roots in one cut). By AI agents, Wed Nov 11 2026. No macro, syntax, notation, axiom, sorry.
-/
import Derived.Test.YtkfcglgikemefaaDoorChecked
import GoSem.Claim
import GoSem.ClaimJoined
import GoSem.ClaimMapViews
import Derived.JoinedTies
import Derived.KernelRfl
namespace Go.Proofs.YtkfcglgikemefaaDoor
/- THE CELL 'sum', in the pinned program and in every row, IS THE sha256 OF THE DUMP (.gsa) THAT YtkfcglgikemefaaDoorProg.lean LOADS. Nothing in Lean hashes anything: it is a label: what it is worth is what the hold of that sum in a sandbox is worth. -/
noncomputable def Tryd.pinned : Pinned := { name := "ytkfcglgikemefaadoor", sum := "65d59c93a796efb6a64f2ebf409db09cdd24e6beb4323f72205dce6892aef6ae", checked := Tryd.checked }
namespace Rows
def none {H : Type} : Left H := { results := [], args := [] }

/- WHAT THE LISTED PACKAGE-LEVEL VARIABLES READ AS WHEN THE CALL BEGINS. Each datum BY PROGRAM (the guide's laid-datum.mjs) off the statement by which the dump's own 'gosem.cut.vars' lays the variable. In a bare row this is a premise. The card (YtkfcglgikemefaaDoorCards.lean) ties it to the program's text. -/
def laid_seesaw_seesawref12_names {H : Type} : DataW H := .agg [.lit (.string []), .lit (.string [98, 101, 103, 105, 110]), .lit (.string [108, 111, 111, 107]), .lit (.string [108, 111, 97, 100]), .lit (.string [108, 111, 99, 107]), .lit (.string [98, 117, 109, 112]), .lit (.string [99, 104, 101, 99, 107]), .lit (.string [99, 111, 109, 109, 105, 116]), .lit (.string [115, 116, 111, 114, 101]), .lit (.string [102, 114, 101, 101]), .lit (.string [97, 98, 111, 114, 116]), .lit (.string [117, 110, 100, 111]), .lit (.string [119, 97, 105, 116]), .lit (.string [119, 97, 107, 101])]
def laid_seesaw_event_names {H : Type} : DataW H := .agg [.lit (.string []), .lit (.string [98, 101, 103, 105, 110]), .lit (.string [108, 111, 111, 107]), .lit (.string [108, 111, 97, 100]), .lit (.string [108, 111, 99, 107]), .lit (.string [98, 117, 109, 112]), .lit (.string [99, 104, 101, 99, 107]), .lit (.string [99, 111, 109, 109, 105, 116]), .lit (.string [115, 116, 111, 114, 101]), .lit (.string [102, 114, 101, 101]), .lit (.string [97, 98, 111, 114, 116]), .lit (.string [117, 110, 100, 111]), .lit (.string [119, 97, 105, 116]), .lit (.string [119, 97, 107, 101])]

/-- 'seesawlaw13.ShapeChecks': WHATEVER THE INPUT: true; the input reads as it did. -/
def shapeChecksSpec : ChangeSpec := { name := "shapeChecks", fn := fun _ => fun
  | [d] => { results := [.lit (.bool true)], args := [d] }
  | _ => none }
def shapeChecksRow : OpenClaim := { program := "ytkfcglgikemefaadoor", sum := "65d59c93a796efb6a64f2ebf409db09cdd24e6beb4323f72205dce6892aef6ae", func := "seesaw/seesawlaw13.ShapeChecks", spec := "shapeChecks", unfollowed := true, recurses := true, named := ["seesaw/event.names", "seesaw/seesawref12.names"], apart := false, laid := [("seesaw/seesawref12.names", laid_seesaw_seesawref12_names), ("seesaw/event.names", laid_seesaw_event_names)] }
def ShapeChecksSaid : Prop := shapeChecksRow.holds Tryd.pinned (OpenSpec.ofChange shapeChecksSpec)

/-- ITS FALSE NEIGHBOUR: 'it returns false'. Refute it at one input. -/
def shapeChecksWrong : ChangeSpec := { name := "shapeChecks", fn := fun _ => fun
  | [d] => { results := [.lit (.bool false)], args := [d] }
  | _ => none }
def ShapeChecksWrongFalsely : Prop := shapeChecksRow.holds Tryd.pinned (OpenSpec.ofChange shapeChecksWrong)

/-- 'seesawlaw14.DeltaWrites': WHATEVER THE INPUT: true; the input reads as it did. -/
def deltaWritesSpec : ChangeSpec := { name := "deltaWrites", fn := fun _ => fun
  | [d1, d2, d3, d4, d5] => { results := [.lit (.bool true)], args := [d1, d2, d3, d4, d5] }
  | _ => none }
def deltaWritesRow : OpenClaim := { program := "ytkfcglgikemefaadoor", sum := "65d59c93a796efb6a64f2ebf409db09cdd24e6beb4323f72205dce6892aef6ae", func := "seesaw/seesawlaw14.DeltaWrites", spec := "deltaWrites", unfollowed := true, recurses := true, named := ["seesaw/event.names", "seesaw/seesawref12.names"], apart := false, laid := [("seesaw/seesawref12.names", laid_seesaw_seesawref12_names), ("seesaw/event.names", laid_seesaw_event_names)] }
def DeltaWritesSaid : Prop := deltaWritesRow.holds Tryd.pinned (OpenSpec.ofChange deltaWritesSpec)

/-- ITS FALSE NEIGHBOUR: 'it returns false'. Refute it at one input. -/
def deltaWritesWrong : ChangeSpec := { name := "deltaWrites", fn := fun _ => fun
  | [d1, d2, d3, d4, d5] => { results := [.lit (.bool false)], args := [d1, d2, d3, d4, d5] }
  | _ => none }
def DeltaWritesWrongFalsely : Prop := deltaWritesRow.holds Tryd.pinned (OpenSpec.ofChange deltaWritesWrong)

/-- 'seesawlaw14.DeltaReads': WHATEVER THE INPUT: true; the input reads as it did. -/
def deltaReadsSpec : ChangeSpec := { name := "deltaReads", fn := fun _ => fun
  | [d1, d2, d3, d4] => { results := [.lit (.bool true)], args := [d1, d2, d3, d4] }
  | _ => none }
def deltaReadsRow : OpenClaim := { program := "ytkfcglgikemefaadoor", sum := "65d59c93a796efb6a64f2ebf409db09cdd24e6beb4323f72205dce6892aef6ae", func := "seesaw/seesawlaw14.DeltaReads", spec := "deltaReads", unfollowed := true, recurses := true, named := ["seesaw/event.names"], apart := false, laid := [("seesaw/event.names", laid_seesaw_event_names)] }
def DeltaReadsSaid : Prop := deltaReadsRow.holds Tryd.pinned (OpenSpec.ofChange deltaReadsSpec)

/-- ITS FALSE NEIGHBOUR: 'it returns false'. Refute it at one input. -/
def deltaReadsWrong : ChangeSpec := { name := "deltaReads", fn := fun _ => fun
  | [d1, d2, d3, d4] => { results := [.lit (.bool false)], args := [d1, d2, d3, d4] }
  | _ => none }
def DeltaReadsWrongFalsely : Prop := deltaReadsRow.holds Tryd.pinned (OpenSpec.ofChange deltaReadsWrong)

/- THE SECOND FORM. 'bulk': how many values and letters a reading holds, each counted each time it is reached (what is shared counts as often as it is met; a slice's spare places count too). A statement '..UptoSaid' is the law's where the arguments, and the package variables that the reading takes, are together of bulk at most 1048576: NARROWER than '..Said'. Prove '..Said' where nothing that the law and all that it calls make is longer than what came in: it says more and counts as full. Else prove '..UptoSaid'. A law counts once. -/
mutual
def uptoBulk {H : Type} : DataW H → Nat
  | .lit (.string bytes) => bytes.length + 1
  | .lit _ => 1
  | .nil => 1
  | .ptr d => uptoBulk d + 1
  | .slice elems spare => uptoBulkAll elems + uptoBulkAll spare + 1
  | .agg parts => uptoBulkAll parts + 1
  | .iface _ d => uptoBulk d + 1
  | .map entries => uptoBulkEntries entries + 1
  | .held _ => 1
def uptoBulkAll {H : Type} : List (DataW H) → Nat
  | [] => 0
  | d :: r => uptoBulk d + uptoBulkAll r
def uptoBulkEntries {H : Type} : List (Lit × DataW H) → Nat
  | [] => 0
  | x :: r => uptoBulkEntry x + uptoBulkEntries r
def uptoBulkEntry {H : Type} : Lit × DataW H → Nat
  | (.string bytes, d) => bytes.length + uptoBulk d + 1
  | (_, d) => uptoBulk d + 1
 end
def uptoSmall : (H : Type) → List (DataW H) → Bool := fun _ ds => decide (uptoBulkAll ds ≤ 1048576)
def OpenSpec.upto (s : _root_.Go.ChangeSpec) : _root_.Go.OpenSpec := { _root_.Go.OpenSpec.ofChange s with cond := some uptoSmall }

/-- 'seesawlaw13.ShapeChecks', WHERE WHAT IT READS IS OF BULK AT MOST 1048576: true; the input reads as it did. -/
def shapeChecksUptoRow : OpenClaim := { program := "ytkfcglgikemefaadoor", sum := "65d59c93a796efb6a64f2ebf409db09cdd24e6beb4323f72205dce6892aef6ae", func := "seesaw/seesawlaw13.ShapeChecks", spec := "shapeChecks", unfollowed := true, recurses := true, named := ["seesaw/event.names", "seesaw/seesawref12.names"], apart := false, laid := [("seesaw/seesawref12.names", laid_seesaw_seesawref12_names), ("seesaw/event.names", laid_seesaw_event_names)], narrowed := true }
def ShapeChecksUptoSaid : Prop := shapeChecksUptoRow.holds Tryd.pinned (OpenSpec.upto shapeChecksSpec)

/-- 'seesawlaw14.DeltaWrites', WHERE WHAT IT READS IS OF BULK AT MOST 1048576: true; the input reads as it did. -/
def deltaWritesUptoRow : OpenClaim := { program := "ytkfcglgikemefaadoor", sum := "65d59c93a796efb6a64f2ebf409db09cdd24e6beb4323f72205dce6892aef6ae", func := "seesaw/seesawlaw14.DeltaWrites", spec := "deltaWrites", unfollowed := true, recurses := true, named := ["seesaw/event.names", "seesaw/seesawref12.names"], apart := false, laid := [("seesaw/seesawref12.names", laid_seesaw_seesawref12_names), ("seesaw/event.names", laid_seesaw_event_names)], narrowed := true }
def DeltaWritesUptoSaid : Prop := deltaWritesUptoRow.holds Tryd.pinned (OpenSpec.upto deltaWritesSpec)

/-- 'seesawlaw14.DeltaReads', WHERE WHAT IT READS IS OF BULK AT MOST 1048576: true; the input reads as it did. -/
def deltaReadsUptoRow : OpenClaim := { program := "ytkfcglgikemefaadoor", sum := "65d59c93a796efb6a64f2ebf409db09cdd24e6beb4323f72205dce6892aef6ae", func := "seesaw/seesawlaw14.DeltaReads", spec := "deltaReads", unfollowed := true, recurses := true, named := ["seesaw/event.names"], apart := false, laid := [("seesaw/event.names", laid_seesaw_event_names)], narrowed := true }
def DeltaReadsUptoSaid : Prop := deltaReadsUptoRow.holds Tryd.pinned (OpenSpec.upto deltaReadsSpec)

end Rows
end Go.Proofs.YtkfcglgikemefaaDoor
