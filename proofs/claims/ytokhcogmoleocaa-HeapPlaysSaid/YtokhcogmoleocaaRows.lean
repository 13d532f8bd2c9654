/-
  No cell of these rows narrows 'for every input' (looked for: loops, veiled, ifaces, maps, wideKeys, modest, calm, conditions, laid).
  DERIVED. THE GIVEN ROWS OF THIS SEAT. 6 by the template 'for every input the law returns true; each argument reads behind the call as it read before'; 0 by the template 'total and deterministic' (their statements: YtokhcogmoleocaaTotals.lean).
  GIVEN WITH THE SEED: the statements are not yours to turn. If you find one false, say at which input.
  Laid BY PROGRAM, IN A SANDBOX (cutbox-rows.mjs): the forced cells as the released guide's own fill.sh prints them over the translation d5d1f412c9b34101… (all of the seat's roots in one cut). By AI agents, Wed Nov 11 2026. No macro, syntax, notation, axiom, sorry.
-/
import Derived.Test.YtokhcogmoleocaaChecked
import GoSem.Claim
import GoSem.ClaimJoined
import GoSem.ClaimMapViews
import Derived.JoinedTies
import Derived.KernelRfl
namespace Go.Proofs.Ytokhcogmoleocaa
/- THE CELL 'sum', in the pinned program and in every row, IS THE sha256 OF THE DUMP (.gsa) THAT YtokhcogmoleocaaProg.lean LOADS. Nothing in Lean hashes anything: it is a label: what it is worth is what the hold of that sum in a sandbox is worth. -/
noncomputable def Try.pinned : Pinned := { name := "ytokhcogmoleocaa", sum := "d5d1f412c9b3410102e7ebdb3ef14724553adfaa7320b1dbc48c2c97677e55cb", checked := Try.checked }
namespace Rows
def none {H : Type} : Left H := { results := [], args := [] }

/-- 'seesawlaw11.HeapNames': WHATEVER THE INPUT: true; the input reads as it did. -/
def heapNamesSpec : ChangeSpec := { name := "heapNames", fn := fun _ => fun
  | [] => { results := [.lit (.bool true)], args := [] }
  | _ => none }
def heapNamesRow : OpenClaim := { program := "ytokhcogmoleocaa", sum := "d5d1f412c9b3410102e7ebdb3ef14724553adfaa7320b1dbc48c2c97677e55cb", func := "seesaw/seesawlaw11.HeapNames", spec := "heapNames", apart := false }
def HeapNamesSaid : Prop := heapNamesRow.holds Try.pinned (OpenSpec.ofChange heapNamesSpec)

/-- ITS FALSE NEIGHBOUR: 'it returns false'. Refute it at one input. -/
def heapNamesWrong : ChangeSpec := { name := "heapNames", fn := fun _ => fun
  | [] => { results := [.lit (.bool false)], args := [] }
  | _ => none }
def HeapNamesWrongFalsely : Prop := heapNamesRow.holds Try.pinned (OpenSpec.ofChange heapNamesWrong)

/-- 'seesawlaw11.HeapPlays': WHATEVER THE INPUT: true; the input reads as it did. -/
def heapPlaysSpec : ChangeSpec := { name := "heapPlays", fn := fun _ => fun
  | [d1, d2, d3, d4] => { results := [.lit (.bool true)], args := [d1, d2, d3, d4] }
  | _ => none }
def heapPlaysRow : OpenClaim := { program := "ytokhcogmoleocaa", sum := "d5d1f412c9b3410102e7ebdb3ef14724553adfaa7320b1dbc48c2c97677e55cb", func := "seesaw/seesawlaw11.HeapPlays", spec := "heapPlays", apart := false }
def HeapPlaysSaid : Prop := heapPlaysRow.holds Try.pinned (OpenSpec.ofChange heapPlaysSpec)

/-- ITS FALSE NEIGHBOUR: 'it returns false'. Refute it at one input. -/
def heapPlaysWrong : ChangeSpec := { name := "heapPlays", fn := fun _ => fun
  | [d1, d2, d3, d4] => { results := [.lit (.bool false)], args := [d1, d2, d3, d4] }
  | _ => none }
def HeapPlaysWrongFalsely : Prop := heapPlaysRow.holds Try.pinned (OpenSpec.ofChange heapPlaysWrong)

/-- 'seesawlaw11.HeapOne': WHATEVER THE INPUT: true; the input reads as it did. -/
def heapOneSpec : ChangeSpec := { name := "heapOne", fn := fun _ => fun
  | [d1, d2, d3, d4, d5, d6, d7] => { results := [.lit (.bool true)], args := [d1, d2, d3, d4, d5, d6, d7] }
  | _ => none }
def heapOneRow : OpenClaim := { program := "ytokhcogmoleocaa", sum := "d5d1f412c9b3410102e7ebdb3ef14724553adfaa7320b1dbc48c2c97677e55cb", func := "seesaw/seesawlaw11.HeapOne", spec := "heapOne", apart := false }
def HeapOneSaid : Prop := heapOneRow.holds Try.pinned (OpenSpec.ofChange heapOneSpec)

/-- ITS FALSE NEIGHBOUR: 'it returns false'. Refute it at one input. -/
def heapOneWrong : ChangeSpec := { name := "heapOne", fn := fun _ => fun
  | [d1, d2, d3, d4, d5, d6, d7] => { results := [.lit (.bool false)], args := [d1, d2, d3, d4, d5, d6, d7] }
  | _ => none }
def HeapOneWrongFalsely : Prop := heapOneRow.holds Try.pinned (OpenSpec.ofChange heapOneWrong)

/-- 'seesawlaw11.HeapForth': WHATEVER THE INPUT: true; the input reads as it did. -/
def heapForthSpec : ChangeSpec := { name := "heapForth", fn := fun _ => fun
  | [d1, d2, d3, d4] => { results := [.lit (.bool true)], args := [d1, d2, d3, d4] }
  | _ => none }
def heapForthRow : OpenClaim := { program := "ytokhcogmoleocaa", sum := "d5d1f412c9b3410102e7ebdb3ef14724553adfaa7320b1dbc48c2c97677e55cb", func := "seesaw/seesawlaw11.HeapForth", spec := "heapForth", apart := false }
def HeapForthSaid : Prop := heapForthRow.holds Try.pinned (OpenSpec.ofChange heapForthSpec)

/-- ITS FALSE NEIGHBOUR: 'it returns false'. Refute it at one input. -/
def heapForthWrong : ChangeSpec := { name := "heapForth", fn := fun _ => fun
  | [d1, d2, d3, d4] => { results := [.lit (.bool false)], args := [d1, d2, d3, d4] }
  | _ => none }
def HeapForthWrongFalsely : Prop := heapForthRow.holds Try.pinned (OpenSpec.ofChange heapForthWrong)

/-- 'seesawlaw11.HeapJust': WHATEVER THE INPUT: true; the input reads as it did. -/
def heapJustSpec : ChangeSpec := { name := "heapJust", fn := fun _ => fun
  | [d1, d2, d3, d4, d5] => { results := [.lit (.bool true)], args := [d1, d2, d3, d4, d5] }
  | _ => none }
def heapJustRow : OpenClaim := { program := "ytokhcogmoleocaa", sum := "d5d1f412c9b3410102e7ebdb3ef14724553adfaa7320b1dbc48c2c97677e55cb", func := "seesaw/seesawlaw11.HeapJust", spec := "heapJust", apart := false }
def HeapJustSaid : Prop := heapJustRow.holds Try.pinned (OpenSpec.ofChange heapJustSpec)

/-- ITS FALSE NEIGHBOUR: 'it returns false'. Refute it at one input. -/
def heapJustWrong : ChangeSpec := { name := "heapJust", fn := fun _ => fun
  | [d1, d2, d3, d4, d5] => { results := [.lit (.bool false)], args := [d1, d2, d3, d4, d5] }
  | _ => none }
def HeapJustWrongFalsely : Prop := heapJustRow.holds Try.pinned (OpenSpec.ofChange heapJustWrong)

/-- 'seesawlaw11.HeapStripes': WHATEVER THE INPUT: true; the input reads as it did. -/
def heapStripesSpec : ChangeSpec := { name := "heapStripes", fn := fun _ => fun
  | [d1, d2, d3, d4] => { results := [.lit (.bool true)], args := [d1, d2, d3, d4] }
  | _ => none }
def heapStripesRow : OpenClaim := { program := "ytokhcogmoleocaa", sum := "d5d1f412c9b3410102e7ebdb3ef14724553adfaa7320b1dbc48c2c97677e55cb", func := "seesaw/seesawlaw11.HeapStripes", spec := "heapStripes", apart := false }
def HeapStripesSaid : Prop := heapStripesRow.holds Try.pinned (OpenSpec.ofChange heapStripesSpec)

/-- ITS FALSE NEIGHBOUR: 'it returns false'. Refute it at one input. -/
def heapStripesWrong : ChangeSpec := { name := "heapStripes", fn := fun _ => fun
  | [d1, d2, d3, d4] => { results := [.lit (.bool false)], args := [d1, d2, d3, d4] }
  | _ => none }
def HeapStripesWrongFalsely : Prop := heapStripesRow.holds Try.pinned (OpenSpec.ofChange heapStripesWrong)

/- THE SECOND FORM. 'bulk': how many values and letters a reading holds, each counted each time it is reached (what is shared counts as often as it is met; a slice's spare places count too). A statement '..UptoSaid' is the law's where the arguments, and the package variables that the reading takes, are together of bulk at most 1048576: NARROWER than '..Said'. Prove '..Said' where nothing that the law and all that it calls make is longer than what came in: it says more and counts as full. Else prove '..UptoSaid'. A law counts once. -/
mutual
def uptoBulk {H : Type} : DataW H → Nat
  | .lit (.string bytes) => bytes.length + 1
  | .lit _ => 1
  | .nil => 1
  | .ptr d => uptoBulk d + 1
  | .slice elems spare => uptoBulkAll elems + uptoBulkAll spare + 1
  | .agg parts => uptoBulkAll parts + 1
  | .iface _ d => uptoBulk d + 1
  | .map entries => uptoBulkEntries entries + 1
  | .held _ => 1
def uptoBulkAll {H : Type} : List (DataW H) → Nat
  | [] => 0
  | d :: r => uptoBulk d + uptoBulkAll r
def uptoBulkEntries {H : Type} : List (Lit × DataW H) → Nat
  | [] => 0
  | x :: r => uptoBulkEntry x + uptoBulkEntries r
def uptoBulkEntry {H : Type} : Lit × DataW H → Nat
  | (.string bytes, d) => bytes.length + uptoBulk d + 1
  | (_, d) => uptoBulk d + 1
 end
def uptoSmall : (H : Type) → List (DataW H) → Bool := fun _ ds => decide (uptoBulkAll ds ≤ 1048576)
def OpenSpec.upto (s : _root_.Go.ChangeSpec) : _root_.Go.OpenSpec := { _root_.Go.OpenSpec.ofChange s with cond := some uptoSmall }

/-- 'seesawlaw11.HeapNames', WHERE WHAT IT READS IS OF BULK AT MOST 1048576: true; the input reads as it did. -/
def heapNamesUptoRow : OpenClaim := { program := "ytokhcogmoleocaa", sum := "d5d1f412c9b3410102e7ebdb3ef14724553adfaa7320b1dbc48c2c97677e55cb", func := "seesaw/seesawlaw11.HeapNames", spec := "heapNames", apart := false, narrowed := true }
def HeapNamesUptoSaid : Prop := heapNamesUptoRow.holds Try.pinned (OpenSpec.upto heapNamesSpec)

/-- 'seesawlaw11.HeapPlays', WHERE WHAT IT READS IS OF BULK AT MOST 1048576: true; the input reads as it did. -/
def heapPlaysUptoRow : OpenClaim := { program := "ytokhcogmoleocaa", sum := "d5d1f412c9b3410102e7ebdb3ef14724553adfaa7320b1dbc48c2c97677e55cb", func := "seesaw/seesawlaw11.HeapPlays", spec := "heapPlays", apart := false, narrowed := true }
def HeapPlaysUptoSaid : Prop := heapPlaysUptoRow.holds Try.pinned (OpenSpec.upto heapPlaysSpec)

/-- 'seesawlaw11.HeapOne', WHERE WHAT IT READS IS OF BULK AT MOST 1048576: true; the input reads as it did. -/
def heapOneUptoRow : OpenClaim := { program := "ytokhcogmoleocaa", sum := "d5d1f412c9b3410102e7ebdb3ef14724553adfaa7320b1dbc48c2c97677e55cb", func := "seesaw/seesawlaw11.HeapOne", spec := "heapOne", apart := false, narrowed := true }
def HeapOneUptoSaid : Prop := heapOneUptoRow.holds Try.pinned (OpenSpec.upto heapOneSpec)

/-- 'seesawlaw11.HeapForth', WHERE WHAT IT READS IS OF BULK AT MOST 1048576: true; the input reads as it did. -/
def heapForthUptoRow : OpenClaim := { program := "ytokhcogmoleocaa", sum := "d5d1f412c9b3410102e7ebdb3ef14724553adfaa7320b1dbc48c2c97677e55cb", func := "seesaw/seesawlaw11.HeapForth", spec := "heapForth", apart := false, narrowed := true }
def HeapForthUptoSaid : Prop := heapForthUptoRow.holds Try.pinned (OpenSpec.upto heapForthSpec)

/-- 'seesawlaw11.HeapJust', WHERE WHAT IT READS IS OF BULK AT MOST 1048576: true; the input reads as it did. -/
def heapJustUptoRow : OpenClaim := { program := "ytokhcogmoleocaa", sum := "d5d1f412c9b3410102e7ebdb3ef14724553adfaa7320b1dbc48c2c97677e55cb", func := "seesaw/seesawlaw11.HeapJust", spec := "heapJust", apart := false, narrowed := true }
def HeapJustUptoSaid : Prop := heapJustUptoRow.holds Try.pinned (OpenSpec.upto heapJustSpec)

/-- 'seesawlaw11.HeapStripes', WHERE WHAT IT READS IS OF BULK AT MOST 1048576: true; the input reads as it did. -/
def heapStripesUptoRow : OpenClaim := { program := "ytokhcogmoleocaa", sum := "d5d1f412c9b3410102e7ebdb3ef14724553adfaa7320b1dbc48c2c97677e55cb", func := "seesaw/seesawlaw11.HeapStripes", spec := "heapStripes", apart := false, narrowed := true }
def HeapStripesUptoSaid : Prop := heapStripesUptoRow.holds Try.pinned (OpenSpec.upto heapStripesSpec)

end Rows
end Go.Proofs.Ytokhcogmoleocaa
