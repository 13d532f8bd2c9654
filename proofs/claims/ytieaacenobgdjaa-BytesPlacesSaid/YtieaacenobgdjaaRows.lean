/-
  No cell of these rows narrows 'for every input' (looked for: loops, veiled, ifaces, maps, wideKeys, modest, calm, conditions, laid).
  DERIVED. THE GIVEN ROWS OF THIS SEAT. 7 by the template 'for every input the law returns true; each argument reads behind the call as it read before'; 0 by the template 'total and deterministic' (their statements: YtieaacenobgdjaaTotals.lean).
  GIVEN WITH THE SEED: the statements are not yours to turn. If you find one false, say at which input.
  Laid BY PROGRAM, IN A SANDBOX (cutbox-rows.mjs): the forced cells as the released guide's own fill.sh prints them over the translation 4efac20e5ba5cc63… (all of the seat's roots in one cut). By AI agents, Wed Nov 11 2026. No macro, syntax, notation, axiom, sorry.
-/
import Derived.Test.YtieaacenobgdjaaChecked
import GoSem.Claim
import GoSem.ClaimJoined
import GoSem.ClaimMapViews
import Derived.JoinedTies
import Derived.KernelRfl
namespace Go.Proofs.Ytieaacenobgdjaa
/- THE CELL 'sum', in the pinned program and in every row, IS THE sha256 OF THE DUMP (.gsa) THAT YtieaacenobgdjaaProg.lean LOADS. Nothing in Lean hashes anything: it is a label: what it is worth is what the hold of that sum in a sandbox is worth. -/
noncomputable def Try.pinned : Pinned := { name := "ytieaacenobgdjaa", sum := "4efac20e5ba5cc633da8cc6dfe55273c0e52eec4c05561238ce001bf9a6028d8", checked := Try.checked }
namespace Rows
def none {H : Type} : Left H := { results := [], args := [] }

/-- 'seesawlaw02.BytesWrites': WHATEVER THE INPUT: true; the input reads as it did. -/
def bytesWritesSpec : ChangeSpec := { name := "bytesWrites", fn := fun _ => fun
  | [d1, d2] => { results := [.lit (.bool true)], args := [d1, d2] }
  | _ => none }
def bytesWritesRow : OpenClaim := { program := "ytieaacenobgdjaa", sum := "4efac20e5ba5cc633da8cc6dfe55273c0e52eec4c05561238ce001bf9a6028d8", func := "seesaw/seesawlaw02.BytesWrites", spec := "bytesWrites", unfollowed := true, recurses := true, apart := false }
def BytesWritesSaid : Prop := bytesWritesRow.holds Try.pinned (OpenSpec.ofChange bytesWritesSpec)

/-- ITS FALSE NEIGHBOUR: 'it returns false'. Refute it at one input. -/
def bytesWritesWrong : ChangeSpec := { name := "bytesWrites", fn := fun _ => fun
  | [d1, d2] => { results := [.lit (.bool false)], args := [d1, d2] }
  | _ => none }
def BytesWritesWrongFalsely : Prop := bytesWritesRow.holds Try.pinned (OpenSpec.ofChange bytesWritesWrong)

/-- 'seesawlaw02.BytesReads': WHATEVER THE INPUT: true; the input reads as it did. -/
def bytesReadsSpec : ChangeSpec := { name := "bytesReads", fn := fun _ => fun
  | [d1, d2] => { results := [.lit (.bool true)], args := [d1, d2] }
  | _ => none }
def bytesReadsRow : OpenClaim := { program := "ytieaacenobgdjaa", sum := "4efac20e5ba5cc633da8cc6dfe55273c0e52eec4c05561238ce001bf9a6028d8", func := "seesaw/seesawlaw02.BytesReads", spec := "bytesReads", unfollowed := true, recurses := true, apart := false }
def BytesReadsSaid : Prop := bytesReadsRow.holds Try.pinned (OpenSpec.ofChange bytesReadsSpec)

/-- ITS FALSE NEIGHBOUR: 'it returns false'. Refute it at one input. -/
def bytesReadsWrong : ChangeSpec := { name := "bytesReads", fn := fun _ => fun
  | [d1, d2] => { results := [.lit (.bool false)], args := [d1, d2] }
  | _ => none }
def BytesReadsWrongFalsely : Prop := bytesReadsRow.holds Try.pinned (OpenSpec.ofChange bytesReadsWrong)

/-- 'seesawlaw02.BytesNames': WHATEVER THE INPUT: true; the input reads as it did. -/
def bytesNamesSpec : ChangeSpec := { name := "bytesNames", fn := fun _ => fun
  | [] => { results := [.lit (.bool true)], args := [] }
  | _ => none }
def bytesNamesRow : OpenClaim := { program := "ytieaacenobgdjaa", sum := "4efac20e5ba5cc633da8cc6dfe55273c0e52eec4c05561238ce001bf9a6028d8", func := "seesaw/seesawlaw02.BytesNames", spec := "bytesNames", unfollowed := true, recurses := true, apart := false }
def BytesNamesSaid : Prop := bytesNamesRow.holds Try.pinned (OpenSpec.ofChange bytesNamesSpec)

/-- ITS FALSE NEIGHBOUR: 'it returns false'. Refute it at one input. -/
def bytesNamesWrong : ChangeSpec := { name := "bytesNames", fn := fun _ => fun
  | [] => { results := [.lit (.bool false)], args := [] }
  | _ => none }
def BytesNamesWrongFalsely : Prop := bytesNamesRow.holds Try.pinned (OpenSpec.ofChange bytesNamesWrong)

/-- 'seesawlaw02.BytesBack': WHATEVER THE INPUT: true; the input reads as it did. -/
def bytesBackSpec : ChangeSpec := { name := "bytesBack", fn := fun _ => fun
  | [d] => { results := [.lit (.bool true)], args := [d] }
  | _ => none }
def bytesBackRow : OpenClaim := { program := "ytieaacenobgdjaa", sum := "4efac20e5ba5cc633da8cc6dfe55273c0e52eec4c05561238ce001bf9a6028d8", func := "seesaw/seesawlaw02.BytesBack", spec := "bytesBack", unfollowed := true, recurses := true, apart := false }
def BytesBackSaid : Prop := bytesBackRow.holds Try.pinned (OpenSpec.ofChange bytesBackSpec)

/-- ITS FALSE NEIGHBOUR: 'it returns false'. Refute it at one input. -/
def bytesBackWrong : ChangeSpec := { name := "bytesBack", fn := fun _ => fun
  | [d] => { results := [.lit (.bool false)], args := [d] }
  | _ => none }
def BytesBackWrongFalsely : Prop := bytesBackRow.holds Try.pinned (OpenSpec.ofChange bytesBackWrong)

/-- 'seesawlaw02.BytesPlaces': WHATEVER THE INPUT: true; the input reads as it did. -/
def bytesPlacesSpec : ChangeSpec := { name := "bytesPlaces", fn := fun _ => fun
  | [d1, d2] => { results := [.lit (.bool true)], args := [d1, d2] }
  | _ => none }
def bytesPlacesRow : OpenClaim := { program := "ytieaacenobgdjaa", sum := "4efac20e5ba5cc633da8cc6dfe55273c0e52eec4c05561238ce001bf9a6028d8", func := "seesaw/seesawlaw02.BytesPlaces", spec := "bytesPlaces", unfollowed := true, recurses := true, apart := false }
def BytesPlacesSaid : Prop := bytesPlacesRow.holds Try.pinned (OpenSpec.ofChange bytesPlacesSpec)

/-- ITS FALSE NEIGHBOUR: 'it returns false'. Refute it at one input. -/
def bytesPlacesWrong : ChangeSpec := { name := "bytesPlaces", fn := fun _ => fun
  | [d1, d2] => { results := [.lit (.bool false)], args := [d1, d2] }
  | _ => none }
def BytesPlacesWrongFalsely : Prop := bytesPlacesRow.holds Try.pinned (OpenSpec.ofChange bytesPlacesWrong)

/-- 'seesawlaw02.BytesAnew': WHATEVER THE INPUT: true; the input reads as it did. -/
def bytesAnewSpec : ChangeSpec := { name := "bytesAnew", fn := fun _ => fun
  | [d] => { results := [.lit (.bool true)], args := [d] }
  | _ => none }
def bytesAnewRow : OpenClaim := { program := "ytieaacenobgdjaa", sum := "4efac20e5ba5cc633da8cc6dfe55273c0e52eec4c05561238ce001bf9a6028d8", func := "seesaw/seesawlaw02.BytesAnew", spec := "bytesAnew", unfollowed := true, recurses := true, apart := false }
def BytesAnewSaid : Prop := bytesAnewRow.holds Try.pinned (OpenSpec.ofChange bytesAnewSpec)

/-- ITS FALSE NEIGHBOUR: 'it returns false'. Refute it at one input. -/
def bytesAnewWrong : ChangeSpec := { name := "bytesAnew", fn := fun _ => fun
  | [d] => { results := [.lit (.bool false)], args := [d] }
  | _ => none }
def BytesAnewWrongFalsely : Prop := bytesAnewRow.holds Try.pinned (OpenSpec.ofChange bytesAnewWrong)

/-- 'seesawlaw02.BytesBound': WHATEVER THE INPUT: true; the input reads as it did. -/
def bytesBoundSpec : ChangeSpec := { name := "bytesBound", fn := fun _ => fun
  | [d1, d2] => { results := [.lit (.bool true)], args := [d1, d2] }
  | _ => none }
def bytesBoundRow : OpenClaim := { program := "ytieaacenobgdjaa", sum := "4efac20e5ba5cc633da8cc6dfe55273c0e52eec4c05561238ce001bf9a6028d8", func := "seesaw/seesawlaw02.BytesBound", spec := "bytesBound", unfollowed := true, recurses := true, apart := false }
def BytesBoundSaid : Prop := bytesBoundRow.holds Try.pinned (OpenSpec.ofChange bytesBoundSpec)

/-- ITS FALSE NEIGHBOUR: 'it returns false'. Refute it at one input. -/
def bytesBoundWrong : ChangeSpec := { name := "bytesBound", fn := fun _ => fun
  | [d1, d2] => { results := [.lit (.bool false)], args := [d1, d2] }
  | _ => none }
def BytesBoundWrongFalsely : Prop := bytesBoundRow.holds Try.pinned (OpenSpec.ofChange bytesBoundWrong)

/- THE SECOND FORM. 'bulk': how many values and letters a reading holds, each counted each time it is reached (what is shared counts as often as it is met; a slice's spare places count too). A statement '..UptoSaid' is the law's where the arguments, and the package variables that the reading takes, are together of bulk at most 1048576: NARROWER than '..Said'. Prove '..Said' where nothing that the law and all that it calls make is longer than what came in: it says more and counts as full. Else prove '..UptoSaid'. A law counts once. -/
mutual
def uptoBulk {H : Type} : DataW H → Nat
  | .lit (.string bytes) => bytes.length + 1
  | .lit _ => 1
  | .nil => 1
  | .ptr d => uptoBulk d + 1
  | .slice elems spare => uptoBulkAll elems + uptoBulkAll spare + 1
  | .agg parts => uptoBulkAll parts + 1
  | .iface _ d => uptoBulk d + 1
  | .map entries => uptoBulkEntries entries + 1
  | .held _ => 1
def uptoBulkAll {H : Type} : List (DataW H) → Nat
  | [] => 0
  | d :: r => uptoBulk d + uptoBulkAll r
def uptoBulkEntries {H : Type} : List (Lit × DataW H) → Nat
  | [] => 0
  | x :: r => uptoBulkEntry x + uptoBulkEntries r
def uptoBulkEntry {H : Type} : Lit × DataW H → Nat
  | (.string bytes, d) => bytes.length + uptoBulk d + 1
  | (_, d) => uptoBulk d + 1
 end
def uptoSmall : (H : Type) → List (DataW H) → Bool := fun _ ds => decide (uptoBulkAll ds ≤ 1048576)
def OpenSpec.upto (s : _root_.Go.ChangeSpec) : _root_.Go.OpenSpec := { _root_.Go.OpenSpec.ofChange s with cond := some uptoSmall }

/-- 'seesawlaw02.BytesWrites', WHERE WHAT IT READS IS OF BULK AT MOST 1048576: true; the input reads as it did. -/
def bytesWritesUptoRow : OpenClaim := { program := "ytieaacenobgdjaa", sum := "4efac20e5ba5cc633da8cc6dfe55273c0e52eec4c05561238ce001bf9a6028d8", func := "seesaw/seesawlaw02.BytesWrites", spec := "bytesWrites", unfollowed := true, recurses := true, apart := false, narrowed := true }
def BytesWritesUptoSaid : Prop := bytesWritesUptoRow.holds Try.pinned (OpenSpec.upto bytesWritesSpec)

/-- 'seesawlaw02.BytesReads', WHERE WHAT IT READS IS OF BULK AT MOST 1048576: true; the input reads as it did. -/
def bytesReadsUptoRow : OpenClaim := { program := "ytieaacenobgdjaa", sum := "4efac20e5ba5cc633da8cc6dfe55273c0e52eec4c05561238ce001bf9a6028d8", func := "seesaw/seesawlaw02.BytesReads", spec := "bytesReads", unfollowed := true, recurses := true, apart := false, narrowed := true }
def BytesReadsUptoSaid : Prop := bytesReadsUptoRow.holds Try.pinned (OpenSpec.upto bytesReadsSpec)

/-- 'seesawlaw02.BytesNames', WHERE WHAT IT READS IS OF BULK AT MOST 1048576: true; the input reads as it did. -/
def bytesNamesUptoRow : OpenClaim := { program := "ytieaacenobgdjaa", sum := "4efac20e5ba5cc633da8cc6dfe55273c0e52eec4c05561238ce001bf9a6028d8", func := "seesaw/seesawlaw02.BytesNames", spec := "bytesNames", unfollowed := true, recurses := true, apart := false, narrowed := true }
def BytesNamesUptoSaid : Prop := bytesNamesUptoRow.holds Try.pinned (OpenSpec.upto bytesNamesSpec)

/-- 'seesawlaw02.BytesBack', WHERE WHAT IT READS IS OF BULK AT MOST 1048576: true; the input reads as it did. -/
def bytesBackUptoRow : OpenClaim := { program := "ytieaacenobgdjaa", sum := "4efac20e5ba5cc633da8cc6dfe55273c0e52eec4c05561238ce001bf9a6028d8", func := "seesaw/seesawlaw02.BytesBack", spec := "bytesBack", unfollowed := true, recurses := true, apart := false, narrowed := true }
def BytesBackUptoSaid : Prop := bytesBackUptoRow.holds Try.pinned (OpenSpec.upto bytesBackSpec)

/-- 'seesawlaw02.BytesPlaces', WHERE WHAT IT READS IS OF BULK AT MOST 1048576: true; the input reads as it did. -/
def bytesPlacesUptoRow : OpenClaim := { program := "ytieaacenobgdjaa", sum := "4efac20e5ba5cc633da8cc6dfe55273c0e52eec4c05561238ce001bf9a6028d8", func := "seesaw/seesawlaw02.BytesPlaces", spec := "bytesPlaces", unfollowed := true, recurses := true, apart := false, narrowed := true }
def BytesPlacesUptoSaid : Prop := bytesPlacesUptoRow.holds Try.pinned (OpenSpec.upto bytesPlacesSpec)

/-- 'seesawlaw02.BytesAnew', WHERE WHAT IT READS IS OF BULK AT MOST 1048576: true; the input reads as it did. -/
def bytesAnewUptoRow : OpenClaim := { program := "ytieaacenobgdjaa", sum := "4efac20e5ba5cc633da8cc6dfe55273c0e52eec4c05561238ce001bf9a6028d8", func := "seesaw/seesawlaw02.BytesAnew", spec := "bytesAnew", unfollowed := true, recurses := true, apart := false, narrowed := true }
def BytesAnewUptoSaid : Prop := bytesAnewUptoRow.holds Try.pinned (OpenSpec.upto bytesAnewSpec)

/-- 'seesawlaw02.BytesBound', WHERE WHAT IT READS IS OF BULK AT MOST 1048576: true; the input reads as it did. -/
def bytesBoundUptoRow : OpenClaim := { program := "ytieaacenobgdjaa", sum := "4efac20e5ba5cc633da8cc6dfe55273c0e52eec4c05561238ce001bf9a6028d8", func := "seesaw/seesawlaw02.BytesBound", spec := "bytesBound", unfollowed := true, recurses := true, apart := false, narrowed := true }
def BytesBoundUptoSaid : Prop := bytesBoundUptoRow.holds Try.pinned (OpenSpec.upto bytesBoundSpec)

end Rows
end Go.Proofs.Ytieaacenobgdjaa
