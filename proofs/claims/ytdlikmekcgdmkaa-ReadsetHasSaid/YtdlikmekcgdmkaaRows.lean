/-
  No cell of these rows narrows 'for every input' (looked for: loops, veiled, ifaces, maps, wideKeys, modest, calm, conditions, laid).
  DERIVED. THE GIVEN ROWS OF THIS SEAT. 5 by the template 'for every input the law returns true; each argument reads behind the call as it read before'; 0 by the template 'total and deterministic' (their statements: YtdlikmekcgdmkaaTotals.lean).
  GIVEN WITH THE SEED: the statements are not yours to turn. If you find one false, say at which input.
  Laid BY PROGRAM, IN A SANDBOX (cutbox-rows.mjs): the forced cells as the released guide's own fill.sh prints them over the translation ea435616483e4d28… (all of the seat's roots in one cut). By AI agents, Wed Nov 11 2026. No macro, syntax, notation, axiom, sorry.
-/
import Derived.Test.YtdlikmekcgdmkaaChecked
import GoSem.Claim
import GoSem.ClaimJoined
import GoSem.ClaimMapViews
import Derived.JoinedTies
import Derived.KernelRfl
namespace Go.Proofs.Ytdlikmekcgdmkaa
/- THE CELL 'sum', in the pinned program and in every row, IS THE sha256 OF THE DUMP (.gsa) THAT YtdlikmekcgdmkaaProg.lean LOADS. Nothing in Lean hashes anything: it is a label: what it is worth is what the hold of that sum in a sandbox is worth. -/
noncomputable def Try.pinned : Pinned := { name := "ytdlikmekcgdmkaa", sum := "ea435616483e4d282237b25df88b52b0d6508d26317e00293106a6407b08fd2f", checked := Try.checked }
namespace Rows
def none {H : Type} : Left H := { results := [], args := [] }

/-- 'seesawlaw10.ReadsetPlays': WHATEVER THE INPUT: true; the input reads as it did. -/
def readsetPlaysSpec : ChangeSpec := { name := "readsetPlays", fn := fun _ => fun
  | [d1, d2, d3] => { results := [.lit (.bool true)], args := [d1, d2, d3] }
  | _ => none }
def readsetPlaysRow : OpenClaim := { program := "ytdlikmekcgdmkaa", sum := "ea435616483e4d282237b25df88b52b0d6508d26317e00293106a6407b08fd2f", func := "seesaw/seesawlaw10.ReadsetPlays", spec := "readsetPlays", unfollowed := true, recurses := true, apart := false }
def ReadsetPlaysSaid : Prop := readsetPlaysRow.holds Try.pinned (OpenSpec.ofChange readsetPlaysSpec)

/-- ITS FALSE NEIGHBOUR: 'it returns false'. Refute it at one input. -/
def readsetPlaysWrong : ChangeSpec := { name := "readsetPlays", fn := fun _ => fun
  | [d1, d2, d3] => { results := [.lit (.bool false)], args := [d1, d2, d3] }
  | _ => none }
def ReadsetPlaysWrongFalsely : Prop := readsetPlaysRow.holds Try.pinned (OpenSpec.ofChange readsetPlaysWrong)

/-- 'seesawlaw10.ReadsetNames': WHATEVER THE INPUT: true; the input reads as it did. -/
def readsetNamesSpec : ChangeSpec := { name := "readsetNames", fn := fun _ => fun
  | [] => { results := [.lit (.bool true)], args := [] }
  | _ => none }
def readsetNamesRow : OpenClaim := { program := "ytdlikmekcgdmkaa", sum := "ea435616483e4d282237b25df88b52b0d6508d26317e00293106a6407b08fd2f", func := "seesaw/seesawlaw10.ReadsetNames", spec := "readsetNames", unfollowed := true, recurses := true, apart := false }
def ReadsetNamesSaid : Prop := readsetNamesRow.holds Try.pinned (OpenSpec.ofChange readsetNamesSpec)

/-- ITS FALSE NEIGHBOUR: 'it returns false'. Refute it at one input. -/
def readsetNamesWrong : ChangeSpec := { name := "readsetNames", fn := fun _ => fun
  | [] => { results := [.lit (.bool false)], args := [] }
  | _ => none }
def ReadsetNamesWrongFalsely : Prop := readsetNamesRow.holds Try.pinned (OpenSpec.ofChange readsetNamesWrong)

/-- 'seesawlaw10.ReadsetHas': WHATEVER THE INPUT: true; the input reads as it did. -/
def readsetHasSpec : ChangeSpec := { name := "readsetHas", fn := fun _ => fun
  | [d1, d2, d3] => { results := [.lit (.bool true)], args := [d1, d2, d3] }
  | _ => none }
def readsetHasRow : OpenClaim := { program := "ytdlikmekcgdmkaa", sum := "ea435616483e4d282237b25df88b52b0d6508d26317e00293106a6407b08fd2f", func := "seesaw/seesawlaw10.ReadsetHas", spec := "readsetHas", unfollowed := true, recurses := true, apart := false }
def ReadsetHasSaid : Prop := readsetHasRow.holds Try.pinned (OpenSpec.ofChange readsetHasSpec)

/-- ITS FALSE NEIGHBOUR: 'it returns false'. Refute it at one input. -/
def readsetHasWrong : ChangeSpec := { name := "readsetHas", fn := fun _ => fun
  | [d1, d2, d3] => { results := [.lit (.bool false)], args := [d1, d2, d3] }
  | _ => none }
def ReadsetHasWrongFalsely : Prop := readsetHasRow.holds Try.pinned (OpenSpec.ofChange readsetHasWrong)

/-- 'seesawlaw10.ReadsetLooked': WHATEVER THE INPUT: true; the input reads as it did. -/
def readsetLookedSpec : ChangeSpec := { name := "readsetLooked", fn := fun _ => fun
  | [d1, d2, d3, d4, d5] => { results := [.lit (.bool true)], args := [d1, d2, d3, d4, d5] }
  | _ => none }
def readsetLookedRow : OpenClaim := { program := "ytdlikmekcgdmkaa", sum := "ea435616483e4d282237b25df88b52b0d6508d26317e00293106a6407b08fd2f", func := "seesaw/seesawlaw10.ReadsetLooked", spec := "readsetLooked", unfollowed := true, recurses := true, apart := false }
def ReadsetLookedSaid : Prop := readsetLookedRow.holds Try.pinned (OpenSpec.ofChange readsetLookedSpec)

/-- ITS FALSE NEIGHBOUR: 'it returns false'. Refute it at one input. -/
def readsetLookedWrong : ChangeSpec := { name := "readsetLooked", fn := fun _ => fun
  | [d1, d2, d3, d4, d5] => { results := [.lit (.bool false)], args := [d1, d2, d3, d4, d5] }
  | _ => none }
def ReadsetLookedWrongFalsely : Prop := readsetLookedRow.holds Try.pinned (OpenSpec.ofChange readsetLookedWrong)

/-- 'seesawlaw10.ReadsetWakes': WHATEVER THE INPUT: true; the input reads as it did. -/
def readsetWakesSpec : ChangeSpec := { name := "readsetWakes", fn := fun _ => fun
  | [d1, d2, d3, d4, d5] => { results := [.lit (.bool true)], args := [d1, d2, d3, d4, d5] }
  | _ => none }
def readsetWakesRow : OpenClaim := { program := "ytdlikmekcgdmkaa", sum := "ea435616483e4d282237b25df88b52b0d6508d26317e00293106a6407b08fd2f", func := "seesaw/seesawlaw10.ReadsetWakes", spec := "readsetWakes", unfollowed := true, recurses := true, apart := false }
def ReadsetWakesSaid : Prop := readsetWakesRow.holds Try.pinned (OpenSpec.ofChange readsetWakesSpec)

/-- ITS FALSE NEIGHBOUR: 'it returns false'. Refute it at one input. -/
def readsetWakesWrong : ChangeSpec := { name := "readsetWakes", fn := fun _ => fun
  | [d1, d2, d3, d4, d5] => { results := [.lit (.bool false)], args := [d1, d2, d3, d4, d5] }
  | _ => none }
def ReadsetWakesWrongFalsely : Prop := readsetWakesRow.holds Try.pinned (OpenSpec.ofChange readsetWakesWrong)

/- THE SECOND FORM. 'bulk': how many values and letters a reading holds, each counted each time it is reached (what is shared counts as often as it is met; a slice's spare places count too). A statement '..UptoSaid' is the law's where the arguments, and the package variables that the reading takes, are together of bulk at most 1048576: NARROWER than '..Said'. Prove '..Said' where nothing that the law and all that it calls make is longer than what came in: it says more and counts as full. Else prove '..UptoSaid'. A law counts once. -/
mutual
def uptoBulk {H : Type} : DataW H → Nat
  | .lit (.string bytes) => bytes.length + 1
  | .lit _ => 1
  | .nil => 1
  | .ptr d => uptoBulk d + 1
  | .slice elems spare => uptoBulkAll elems + uptoBulkAll spare + 1
  | .agg parts => uptoBulkAll parts + 1
  | .iface _ d => uptoBulk d + 1
  | .map entries => uptoBulkEntries entries + 1
  | .held _ => 1
def uptoBulkAll {H : Type} : List (DataW H) → Nat
  | [] => 0
  | d :: r => uptoBulk d + uptoBulkAll r
def uptoBulkEntries {H : Type} : List (Lit × DataW H) → Nat
  | [] => 0
  | x :: r => uptoBulkEntry x + uptoBulkEntries r
def uptoBulkEntry {H : Type} : Lit × DataW H → Nat
  | (.string bytes, d) => bytes.length + uptoBulk d + 1
  | (_, d) => uptoBulk d + 1
 end
def uptoSmall : (H : Type) → List (DataW H) → Bool := fun _ ds => decide (uptoBulkAll ds ≤ 1048576)
def OpenSpec.upto (s : _root_.Go.ChangeSpec) : _root_.Go.OpenSpec := { _root_.Go.OpenSpec.ofChange s with cond := some uptoSmall }

/-- 'seesawlaw10.ReadsetPlays', WHERE WHAT IT READS IS OF BULK AT MOST 1048576: true; the input reads as it did. -/
def readsetPlaysUptoRow : OpenClaim := { program := "ytdlikmekcgdmkaa", sum := "ea435616483e4d282237b25df88b52b0d6508d26317e00293106a6407b08fd2f", func := "seesaw/seesawlaw10.ReadsetPlays", spec := "readsetPlays", unfollowed := true, recurses := true, apart := false, narrowed := true }
def ReadsetPlaysUptoSaid : Prop := readsetPlaysUptoRow.holds Try.pinned (OpenSpec.upto readsetPlaysSpec)

/-- 'seesawlaw10.ReadsetNames', WHERE WHAT IT READS IS OF BULK AT MOST 1048576: true; the input reads as it did. -/
def readsetNamesUptoRow : OpenClaim := { program := "ytdlikmekcgdmkaa", sum := "ea435616483e4d282237b25df88b52b0d6508d26317e00293106a6407b08fd2f", func := "seesaw/seesawlaw10.ReadsetNames", spec := "readsetNames", unfollowed := true, recurses := true, apart := false, narrowed := true }
def ReadsetNamesUptoSaid : Prop := readsetNamesUptoRow.holds Try.pinned (OpenSpec.upto readsetNamesSpec)

/-- 'seesawlaw10.ReadsetHas', WHERE WHAT IT READS IS OF BULK AT MOST 1048576: true; the input reads as it did. -/
def readsetHasUptoRow : OpenClaim := { program := "ytdlikmekcgdmkaa", sum := "ea435616483e4d282237b25df88b52b0d6508d26317e00293106a6407b08fd2f", func := "seesaw/seesawlaw10.ReadsetHas", spec := "readsetHas", unfollowed := true, recurses := true, apart := false, narrowed := true }
def ReadsetHasUptoSaid : Prop := readsetHasUptoRow.holds Try.pinned (OpenSpec.upto readsetHasSpec)

/-- 'seesawlaw10.ReadsetLooked', WHERE WHAT IT READS IS OF BULK AT MOST 1048576: true; the input reads as it did. -/
def readsetLookedUptoRow : OpenClaim := { program := "ytdlikmekcgdmkaa", sum := "ea435616483e4d282237b25df88b52b0d6508d26317e00293106a6407b08fd2f", func := "seesaw/seesawlaw10.ReadsetLooked", spec := "readsetLooked", unfollowed := true, recurses := true, apart := false, narrowed := true }
def ReadsetLookedUptoSaid : Prop := readsetLookedUptoRow.holds Try.pinned (OpenSpec.upto readsetLookedSpec)

/-- 'seesawlaw10.ReadsetWakes', WHERE WHAT IT READS IS OF BULK AT MOST 1048576: true; the input reads as it did. -/
def readsetWakesUptoRow : OpenClaim := { program := "ytdlikmekcgdmkaa", sum := "ea435616483e4d282237b25df88b52b0d6508d26317e00293106a6407b08fd2f", func := "seesaw/seesawlaw10.ReadsetWakes", spec := "readsetWakes", unfollowed := true, recurses := true, apart := false, narrowed := true }
def ReadsetWakesUptoSaid : Prop := readsetWakesUptoRow.holds Try.pinned (OpenSpec.upto readsetWakesSpec)

end Rows
end Go.Proofs.Ytdlikmekcgdmkaa
