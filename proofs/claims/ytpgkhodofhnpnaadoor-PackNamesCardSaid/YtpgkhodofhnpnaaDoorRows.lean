/-
  NARROWER THAN 'FOR EVERY INPUT', by the rows' own cells (each row's printed sentence says how): PackNames: laid · PackBody: laid.
  DERIVED. THE GIVEN ROWS OF THIS SEAT. 2 by the template 'for every input the law returns true; each argument reads behind the call as it read before'; 0 by the template 'total and deterministic' (their statements: YtpgkhodofhnpnaaDoorTotals.lean).
  GIVEN WITH THE SEED: the statements are not yours to turn. If you find one false, say at which input.
  Laid BY PROGRAM, IN A SANDBOX (cutbox-rows.mjs): the forced cells as the released guide's own fill.sh prints them over the translation 8b60874b2bdeaa32… (all of the seat's roots in one cut). By AI agents, Wed Nov 11 2026. No macro, syntax, notation, axiom, sorry.
-/
import Derived.Test.YtpgkhodofhnpnaaDoorChecked
import GoSem.Claim
import GoSem.ClaimJoined
import GoSem.ClaimMapViews
import Derived.JoinedTies
import Derived.KernelRfl
namespace Go.Proofs.YtpgkhodofhnpnaaDoor
/- THE CELL 'sum', in the pinned program and in every row, IS THE sha256 OF THE DUMP (.gsa) THAT YtpgkhodofhnpnaaDoorProg.lean LOADS. Nothing in Lean hashes anything: it is a label: what it is worth is what the hold of that sum in a sandbox is worth. -/
noncomputable def Tryd.pinned : Pinned := { name := "ytpgkhodofhnpnaadoor", sum := "8b60874b2bdeaa32dc9dacb1fa4d2fb0fbd09ca94c287c118eba1eaa05fb4569", checked := Tryd.checked }
namespace Rows
def none {H : Type} : Left H := { results := [], args := [] }

/- WHAT THE LISTED PACKAGE-LEVEL VARIABLES READ AS WHEN THE CALL BEGINS. Each datum BY PROGRAM (the guide's laid-datum.mjs) off the statement by which the dump's own 'gosem.cut.vars' lays the variable. In a bare row this is a premise. The card (YtpgkhodofhnpnaaDoorCards.lean) ties it to the program's text. -/
def laid_seesaw_code_kinds {H : Type} : DataW H := .agg [.agg [.lit (.bool false), .lit (.bool false), .lit (.bool false), .lit (.bool false), .lit (.bool false)], .agg [.lit (.bool true), .lit (.bool true), .lit (.bool false), .lit (.bool false), .lit (.bool false)], .agg [.lit (.bool true), .lit (.bool true), .lit (.bool false), .lit (.bool false), .lit (.bool false)], .agg [.lit (.bool false), .lit (.bool true), .lit (.bool true), .lit (.bool false), .lit (.bool false)], .agg [.lit (.bool false), .lit (.bool true), .lit (.bool false), .lit (.bool true), .lit (.bool true)], .agg [.lit (.bool false), .lit (.bool true), .lit (.bool false), .lit (.bool true), .lit (.bool false)], .agg [.lit (.bool false), .lit (.bool false), .lit (.bool false), .lit (.bool false), .lit (.bool false)], .agg [.lit (.bool false), .lit (.bool false), .lit (.bool false), .lit (.bool true), .lit (.bool true)], .agg [.lit (.bool false), .lit (.bool true), .lit (.bool false), .lit (.bool false), .lit (.bool false)]]
def laid_seesaw_pack_parts {H : Type} : DataW H := .agg [.lit (.string []), .lit (.string [84, 65]), .lit (.string [84, 65]), .lit (.string [65, 66]), .lit (.string [65, 98, 101]), .lit (.string [65, 98]), .lit (.string []), .lit (.string [98, 101]), .lit (.string [65])]

/-- 'seesawlaw07.PackNames': WHATEVER THE INPUT: true; the input reads as it did. -/
def packNamesSpec : ChangeSpec := { name := "packNames", fn := fun _ => fun
  | [] => { results := [.lit (.bool true)], args := [] }
  | _ => none }
def packNamesRow : OpenClaim := { program := "ytpgkhodofhnpnaadoor", sum := "8b60874b2bdeaa32dc9dacb1fa4d2fb0fbd09ca94c287c118eba1eaa05fb4569", func := "seesaw/seesawlaw07.PackNames", spec := "packNames", unfollowed := true, recurses := true, named := ["seesaw/code.kinds", "seesaw/pack.parts"], apart := false, laid := [("seesaw/code.kinds", laid_seesaw_code_kinds), ("seesaw/pack.parts", laid_seesaw_pack_parts)] }
def PackNamesSaid : Prop := packNamesRow.holds Tryd.pinned (OpenSpec.ofChange packNamesSpec)

/-- ITS FALSE NEIGHBOUR: 'it returns false'. Refute it at one input. -/
def packNamesWrong : ChangeSpec := { name := "packNames", fn := fun _ => fun
  | [] => { results := [.lit (.bool false)], args := [] }
  | _ => none }
def PackNamesWrongFalsely : Prop := packNamesRow.holds Tryd.pinned (OpenSpec.ofChange packNamesWrong)

/-- 'seesawlaw07.PackBody': WHATEVER THE INPUT: true; the input reads as it did. -/
def packBodySpec : ChangeSpec := { name := "packBody", fn := fun _ => fun
  | [d] => { results := [.lit (.bool true)], args := [d] }
  | _ => none }
def packBodyRow : OpenClaim := { program := "ytpgkhodofhnpnaadoor", sum := "8b60874b2bdeaa32dc9dacb1fa4d2fb0fbd09ca94c287c118eba1eaa05fb4569", func := "seesaw/seesawlaw07.PackBody", spec := "packBody", unfollowed := true, recurses := true, named := ["seesaw/code.kinds", "seesaw/pack.parts"], apart := false, laid := [("seesaw/code.kinds", laid_seesaw_code_kinds), ("seesaw/pack.parts", laid_seesaw_pack_parts)] }
def PackBodySaid : Prop := packBodyRow.holds Tryd.pinned (OpenSpec.ofChange packBodySpec)

/-- ITS FALSE NEIGHBOUR: 'it returns false'. Refute it at one input. -/
def packBodyWrong : ChangeSpec := { name := "packBody", fn := fun _ => fun
  | [d] => { results := [.lit (.bool false)], args := [d] }
  | _ => none }
def PackBodyWrongFalsely : Prop := packBodyRow.holds Tryd.pinned (OpenSpec.ofChange packBodyWrong)

/- THE SECOND FORM. 'bulk': how many values and letters a reading holds, each counted each time it is reached (what is shared counts as often as it is met; a slice's spare places count too). A statement '..UptoSaid' is the law's where the arguments, and the package variables that the reading takes, are together of bulk at most 1048576: NARROWER than '..Said'. Prove '..Said' where nothing that the law and all that it calls make is longer than what came in: it says more and counts as full. Else prove '..UptoSaid'. A law counts once. -/
mutual
def uptoBulk {H : Type} : DataW H → Nat
  | .lit (.string bytes) => bytes.length + 1
  | .lit _ => 1
  | .nil => 1
  | .ptr d => uptoBulk d + 1
  | .slice elems spare => uptoBulkAll elems + uptoBulkAll spare + 1
  | .agg parts => uptoBulkAll parts + 1
  | .iface _ d => uptoBulk d + 1
  | .map entries => uptoBulkEntries entries + 1
  | .held _ => 1
def uptoBulkAll {H : Type} : List (DataW H) → Nat
  | [] => 0
  | d :: r => uptoBulk d + uptoBulkAll r
def uptoBulkEntries {H : Type} : List (Lit × DataW H) → Nat
  | [] => 0
  | x :: r => uptoBulkEntry x + uptoBulkEntries r
def uptoBulkEntry {H : Type} : Lit × DataW H → Nat
  | (.string bytes, d) => bytes.length + uptoBulk d + 1
  | (_, d) => uptoBulk d + 1
 end
def uptoSmall : (H : Type) → List (DataW H) → Bool := fun _ ds => decide (uptoBulkAll ds ≤ 1048576)
def OpenSpec.upto (s : _root_.Go.ChangeSpec) : _root_.Go.OpenSpec := { _root_.Go.OpenSpec.ofChange s with cond := some uptoSmall }

/-- 'seesawlaw07.PackNames', WHERE WHAT IT READS IS OF BULK AT MOST 1048576: true; the input reads as it did. -/
def packNamesUptoRow : OpenClaim := { program := "ytpgkhodofhnpnaadoor", sum := "8b60874b2bdeaa32dc9dacb1fa4d2fb0fbd09ca94c287c118eba1eaa05fb4569", func := "seesaw/seesawlaw07.PackNames", spec := "packNames", unfollowed := true, recurses := true, named := ["seesaw/code.kinds", "seesaw/pack.parts"], apart := false, laid := [("seesaw/code.kinds", laid_seesaw_code_kinds), ("seesaw/pack.parts", laid_seesaw_pack_parts)], narrowed := true }
def PackNamesUptoSaid : Prop := packNamesUptoRow.holds Tryd.pinned (OpenSpec.upto packNamesSpec)

/-- 'seesawlaw07.PackBody', WHERE WHAT IT READS IS OF BULK AT MOST 1048576: true; the input reads as it did. -/
def packBodyUptoRow : OpenClaim := { program := "ytpgkhodofhnpnaadoor", sum := "8b60874b2bdeaa32dc9dacb1fa4d2fb0fbd09ca94c287c118eba1eaa05fb4569", func := "seesaw/seesawlaw07.PackBody", spec := "packBody", unfollowed := true, recurses := true, named := ["seesaw/code.kinds", "seesaw/pack.parts"], apart := false, laid := [("seesaw/code.kinds", laid_seesaw_code_kinds), ("seesaw/pack.parts", laid_seesaw_pack_parts)], narrowed := true }
def PackBodyUptoSaid : Prop := packBodyUptoRow.holds Tryd.pinned (OpenSpec.upto packBodySpec)

end Rows
end Go.Proofs.YtpgkhodofhnpnaaDoor
