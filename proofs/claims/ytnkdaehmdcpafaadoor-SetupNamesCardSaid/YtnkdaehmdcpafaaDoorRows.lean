/-
  NARROWER THAN 'FOR EVERY INPUT', by the rows' own cells (each row's printed sentence says how): SetupTells: loops, laid · SetupStripes: laid · SetupNames: laid · SetupEach: loops, laid · SetupParted: laid · SetupAlike: loops, laid · SetupLess: loops, laid.
  DERIVED. THE GIVEN ROWS OF THIS SEAT. 7 by the template 'for every input the law returns true; each argument reads behind the call as it read before'; 0 by the template 'total and deterministic' (their statements: YtnkdaehmdcpafaaDoorTotals.lean).
  GIVEN WITH THE SEED: the statements are not yours to turn. If you find one false, say at which input.
  Laid BY PROGRAM, IN A SANDBOX (cutbox-rows.mjs): the forced cells as the released guide's own fill.sh prints them over the translation 309c8938042ffc93… (all of the seat's roots in one cut). By AI agents, Wed Nov 11 2026. No macro, syntax, notation, axiom, sorry.
-/
import Derived.Test.YtnkdaehmdcpafaaDoorChecked
import GoSem.Claim
import GoSem.ClaimJoined
import GoSem.ClaimMapViews
import Derived.JoinedTies
import Derived.KernelRfl
namespace Go.Proofs.YtnkdaehmdcpafaaDoor
/- THE CELL 'sum', in the pinned program and in every row, IS THE sha256 OF THE DUMP (.gsa) THAT YtnkdaehmdcpafaaDoorProg.lean LOADS. Nothing in Lean hashes anything: it is a label: what it is worth is what the hold of that sum in a sandbox is worth. -/
noncomputable def Tryd.pinned : Pinned := { name := "ytnkdaehmdcpafaadoor", sum := "309c8938042ffc9385d80ad709b022f2143a895631b2de2f88c3c8bf363709bf", checked := Tryd.checked }
namespace Rows
def none {H : Type} : Left H := { results := [], args := [] }

/- WHAT THE LISTED PACKAGE-LEVEL VARIABLES READ AS WHEN THE CALL BEGINS. Each datum BY PROGRAM (the guide's laid-datum.mjs) off the statement by which the dump's own 'gosem.cut.vars' lays the variable. In a bare row this is a premise. The card (YtnkdaehmdcpafaaDoorCards.lean) ties it to the program's text. -/
def laid_seesaw_code_kinds {H : Type} : DataW H := .agg [.agg [.lit (.bool false), .lit (.bool false), .lit (.bool false), .lit (.bool false), .lit (.bool false)], .agg [.lit (.bool true), .lit (.bool true), .lit (.bool false), .lit (.bool false), .lit (.bool false)], .agg [.lit (.bool true), .lit (.bool true), .lit (.bool false), .lit (.bool false), .lit (.bool false)], .agg [.lit (.bool false), .lit (.bool true), .lit (.bool true), .lit (.bool false), .lit (.bool false)], .agg [.lit (.bool false), .lit (.bool true), .lit (.bool false), .lit (.bool true), .lit (.bool true)], .agg [.lit (.bool false), .lit (.bool true), .lit (.bool false), .lit (.bool true), .lit (.bool false)], .agg [.lit (.bool false), .lit (.bool false), .lit (.bool false), .lit (.bool false), .lit (.bool false)], .agg [.lit (.bool false), .lit (.bool false), .lit (.bool false), .lit (.bool true), .lit (.bool true)], .agg [.lit (.bool false), .lit (.bool true), .lit (.bool false), .lit (.bool false), .lit (.bool false)]]

/-- 'seesawlaw06.SetupTells': WHATEVER THE INPUT: true; the input reads as it did. -/
def setupTellsSpec : ChangeSpec := { name := "setupTells", fn := fun _ => fun
  | [d1, d2] => { results := [.lit (.bool true)], args := [d1, d2] }
  | _ => none }
def setupTellsRow : OpenClaim := { program := "ytnkdaehmdcpafaadoor", sum := "309c8938042ffc9385d80ad709b022f2143a895631b2de2f88c3c8bf363709bf", func := "seesaw/seesawlaw06.SetupTells", spec := "setupTells", unfollowed := true, recurses := true, named := ["seesaw/code.kinds"], loops := true, apart := false, laid := [("seesaw/code.kinds", laid_seesaw_code_kinds)] }
def SetupTellsSaid : Prop := setupTellsRow.holds Tryd.pinned (OpenSpec.ofChange setupTellsSpec)

/-- ITS FALSE NEIGHBOUR: 'it returns false'. Refute it at one input. -/
def setupTellsWrong : ChangeSpec := { name := "setupTells", fn := fun _ => fun
  | [d1, d2] => { results := [.lit (.bool false)], args := [d1, d2] }
  | _ => none }
def SetupTellsWrongFalsely : Prop := setupTellsRow.holds Tryd.pinned (OpenSpec.ofChange setupTellsWrong)

/-- 'seesawlaw06.SetupStripes': WHATEVER THE INPUT: true; the input reads as it did. -/
def setupStripesSpec : ChangeSpec := { name := "setupStripes", fn := fun _ => fun
  | [d1, d2, d3, d4] => { results := [.lit (.bool true)], args := [d1, d2, d3, d4] }
  | _ => none }
def setupStripesRow : OpenClaim := { program := "ytnkdaehmdcpafaadoor", sum := "309c8938042ffc9385d80ad709b022f2143a895631b2de2f88c3c8bf363709bf", func := "seesaw/seesawlaw06.SetupStripes", spec := "setupStripes", unfollowed := true, recurses := true, named := ["seesaw/code.kinds"], apart := false, laid := [("seesaw/code.kinds", laid_seesaw_code_kinds)] }
def SetupStripesSaid : Prop := setupStripesRow.holds Tryd.pinned (OpenSpec.ofChange setupStripesSpec)

/-- ITS FALSE NEIGHBOUR: 'it returns false'. Refute it at one input. -/
def setupStripesWrong : ChangeSpec := { name := "setupStripes", fn := fun _ => fun
  | [d1, d2, d3, d4] => { results := [.lit (.bool false)], args := [d1, d2, d3, d4] }
  | _ => none }
def SetupStripesWrongFalsely : Prop := setupStripesRow.holds Tryd.pinned (OpenSpec.ofChange setupStripesWrong)

/-- 'seesawlaw06.SetupNames': WHATEVER THE INPUT: true; the input reads as it did. -/
def setupNamesSpec : ChangeSpec := { name := "setupNames", fn := fun _ => fun
  | [] => { results := [.lit (.bool true)], args := [] }
  | _ => none }
def setupNamesRow : OpenClaim := { program := "ytnkdaehmdcpafaadoor", sum := "309c8938042ffc9385d80ad709b022f2143a895631b2de2f88c3c8bf363709bf", func := "seesaw/seesawlaw06.SetupNames", spec := "setupNames", unfollowed := true, recurses := true, named := ["seesaw/code.kinds"], apart := false, laid := [("seesaw/code.kinds", laid_seesaw_code_kinds)] }
def SetupNamesSaid : Prop := setupNamesRow.holds Tryd.pinned (OpenSpec.ofChange setupNamesSpec)

/-- ITS FALSE NEIGHBOUR: 'it returns false'. Refute it at one input. -/
def setupNamesWrong : ChangeSpec := { name := "setupNames", fn := fun _ => fun
  | [] => { results := [.lit (.bool false)], args := [] }
  | _ => none }
def SetupNamesWrongFalsely : Prop := setupNamesRow.holds Tryd.pinned (OpenSpec.ofChange setupNamesWrong)

/-- 'seesawlaw06.SetupEach': WHATEVER THE INPUT: true; the input reads as it did. -/
def setupEachSpec : ChangeSpec := { name := "setupEach", fn := fun _ => fun
  | [d] => { results := [.lit (.bool true)], args := [d] }
  | _ => none }
def setupEachRow : OpenClaim := { program := "ytnkdaehmdcpafaadoor", sum := "309c8938042ffc9385d80ad709b022f2143a895631b2de2f88c3c8bf363709bf", func := "seesaw/seesawlaw06.SetupEach", spec := "setupEach", unfollowed := true, recurses := true, named := ["seesaw/code.kinds"], loops := true, apart := false, laid := [("seesaw/code.kinds", laid_seesaw_code_kinds)] }
def SetupEachSaid : Prop := setupEachRow.holds Tryd.pinned (OpenSpec.ofChange setupEachSpec)

/-- ITS FALSE NEIGHBOUR: 'it returns false'. Refute it at one input. -/
def setupEachWrong : ChangeSpec := { name := "setupEach", fn := fun _ => fun
  | [d] => { results := [.lit (.bool false)], args := [d] }
  | _ => none }
def SetupEachWrongFalsely : Prop := setupEachRow.holds Tryd.pinned (OpenSpec.ofChange setupEachWrong)

/-- 'seesawlaw06.SetupParted': WHATEVER THE INPUT: true; the input reads as it did. -/
def setupPartedSpec : ChangeSpec := { name := "setupParted", fn := fun _ => fun
  | [d1, d2] => { results := [.lit (.bool true)], args := [d1, d2] }
  | _ => none }
def setupPartedRow : OpenClaim := { program := "ytnkdaehmdcpafaadoor", sum := "309c8938042ffc9385d80ad709b022f2143a895631b2de2f88c3c8bf363709bf", func := "seesaw/seesawlaw06.SetupParted", spec := "setupParted", unfollowed := true, recurses := true, named := ["seesaw/code.kinds"], apart := false, laid := [("seesaw/code.kinds", laid_seesaw_code_kinds)] }
def SetupPartedSaid : Prop := setupPartedRow.holds Tryd.pinned (OpenSpec.ofChange setupPartedSpec)

/-- ITS FALSE NEIGHBOUR: 'it returns false'. Refute it at one input. -/
def setupPartedWrong : ChangeSpec := { name := "setupParted", fn := fun _ => fun
  | [d1, d2] => { results := [.lit (.bool false)], args := [d1, d2] }
  | _ => none }
def SetupPartedWrongFalsely : Prop := setupPartedRow.holds Tryd.pinned (OpenSpec.ofChange setupPartedWrong)

/-- 'seesawlaw06.SetupAlike': WHATEVER THE INPUT: true; the input reads as it did. -/
def setupAlikeSpec : ChangeSpec := { name := "setupAlike", fn := fun _ => fun
  | [d1, d2] => { results := [.lit (.bool true)], args := [d1, d2] }
  | _ => none }
def setupAlikeRow : OpenClaim := { program := "ytnkdaehmdcpafaadoor", sum := "309c8938042ffc9385d80ad709b022f2143a895631b2de2f88c3c8bf363709bf", func := "seesaw/seesawlaw06.SetupAlike", spec := "setupAlike", unfollowed := true, recurses := true, named := ["seesaw/code.kinds"], loops := true, apart := false, laid := [("seesaw/code.kinds", laid_seesaw_code_kinds)] }
def SetupAlikeSaid : Prop := setupAlikeRow.holds Tryd.pinned (OpenSpec.ofChange setupAlikeSpec)

/-- ITS FALSE NEIGHBOUR: 'it returns false'. Refute it at one input. -/
def setupAlikeWrong : ChangeSpec := { name := "setupAlike", fn := fun _ => fun
  | [d1, d2] => { results := [.lit (.bool false)], args := [d1, d2] }
  | _ => none }
def SetupAlikeWrongFalsely : Prop := setupAlikeRow.holds Tryd.pinned (OpenSpec.ofChange setupAlikeWrong)

/-- 'seesawlaw06.SetupLess': WHATEVER THE INPUT: true; the input reads as it did. -/
def setupLessSpec : ChangeSpec := { name := "setupLess", fn := fun _ => fun
  | [d1, d2, d3] => { results := [.lit (.bool true)], args := [d1, d2, d3] }
  | _ => none }
def setupLessRow : OpenClaim := { program := "ytnkdaehmdcpafaadoor", sum := "309c8938042ffc9385d80ad709b022f2143a895631b2de2f88c3c8bf363709bf", func := "seesaw/seesawlaw06.SetupLess", spec := "setupLess", unfollowed := true, recurses := true, named := ["seesaw/code.kinds"], loops := true, apart := false, laid := [("seesaw/code.kinds", laid_seesaw_code_kinds)] }
def SetupLessSaid : Prop := setupLessRow.holds Tryd.pinned (OpenSpec.ofChange setupLessSpec)

/-- ITS FALSE NEIGHBOUR: 'it returns false'. Refute it at one input. -/
def setupLessWrong : ChangeSpec := { name := "setupLess", fn := fun _ => fun
  | [d1, d2, d3] => { results := [.lit (.bool false)], args := [d1, d2, d3] }
  | _ => none }
def SetupLessWrongFalsely : Prop := setupLessRow.holds Tryd.pinned (OpenSpec.ofChange setupLessWrong)

/- THE SECOND FORM. 'bulk': how many values and letters a reading holds, each counted each time it is reached (what is shared counts as often as it is met; a slice's spare places count too). A statement '..UptoSaid' is the law's where the arguments, and the package variables that the reading takes, are together of bulk at most 1048576: NARROWER than '..Said'. Prove '..Said' where nothing that the law and all that it calls make is longer than what came in: it says more and counts as full. Else prove '..UptoSaid'. A law counts once. -/
mutual
def uptoBulk {H : Type} : DataW H → Nat
  | .lit (.string bytes) => bytes.length + 1
  | .lit _ => 1
  | .nil => 1
  | .ptr d => uptoBulk d + 1
  | .slice elems spare => uptoBulkAll elems + uptoBulkAll spare + 1
  | .agg parts => uptoBulkAll parts + 1
  | .iface _ d => uptoBulk d + 1
  | .map entries => uptoBulkEntries entries + 1
  | .held _ => 1
def uptoBulkAll {H : Type} : List (DataW H) → Nat
  | [] => 0
  | d :: r => uptoBulk d + uptoBulkAll r
def uptoBulkEntries {H : Type} : List (Lit × DataW H) → Nat
  | [] => 0
  | x :: r => uptoBulkEntry x + uptoBulkEntries r
def uptoBulkEntry {H : Type} : Lit × DataW H → Nat
  | (.string bytes, d) => bytes.length + uptoBulk d + 1
  | (_, d) => uptoBulk d + 1
 end
def uptoSmall : (H : Type) → List (DataW H) → Bool := fun _ ds => decide (uptoBulkAll ds ≤ 1048576)
def OpenSpec.upto (s : _root_.Go.ChangeSpec) : _root_.Go.OpenSpec := { _root_.Go.OpenSpec.ofChange s with cond := some uptoSmall }

/-- 'seesawlaw06.SetupTells', WHERE WHAT IT READS IS OF BULK AT MOST 1048576: true; the input reads as it did. -/
def setupTellsUptoRow : OpenClaim := { program := "ytnkdaehmdcpafaadoor", sum := "309c8938042ffc9385d80ad709b022f2143a895631b2de2f88c3c8bf363709bf", func := "seesaw/seesawlaw06.SetupTells", spec := "setupTells", unfollowed := true, recurses := true, named := ["seesaw/code.kinds"], loops := true, apart := false, laid := [("seesaw/code.kinds", laid_seesaw_code_kinds)], narrowed := true }
def SetupTellsUptoSaid : Prop := setupTellsUptoRow.holds Tryd.pinned (OpenSpec.upto setupTellsSpec)

/-- 'seesawlaw06.SetupStripes', WHERE WHAT IT READS IS OF BULK AT MOST 1048576: true; the input reads as it did. -/
def setupStripesUptoRow : OpenClaim := { program := "ytnkdaehmdcpafaadoor", sum := "309c8938042ffc9385d80ad709b022f2143a895631b2de2f88c3c8bf363709bf", func := "seesaw/seesawlaw06.SetupStripes", spec := "setupStripes", unfollowed := true, recurses := true, named := ["seesaw/code.kinds"], apart := false, laid := [("seesaw/code.kinds", laid_seesaw_code_kinds)], narrowed := true }
def SetupStripesUptoSaid : Prop := setupStripesUptoRow.holds Tryd.pinned (OpenSpec.upto setupStripesSpec)

/-- 'seesawlaw06.SetupNames', WHERE WHAT IT READS IS OF BULK AT MOST 1048576: true; the input reads as it did. -/
def setupNamesUptoRow : OpenClaim := { program := "ytnkdaehmdcpafaadoor", sum := "309c8938042ffc9385d80ad709b022f2143a895631b2de2f88c3c8bf363709bf", func := "seesaw/seesawlaw06.SetupNames", spec := "setupNames", unfollowed := true, recurses := true, named := ["seesaw/code.kinds"], apart := false, laid := [("seesaw/code.kinds", laid_seesaw_code_kinds)], narrowed := true }
def SetupNamesUptoSaid : Prop := setupNamesUptoRow.holds Tryd.pinned (OpenSpec.upto setupNamesSpec)

/-- 'seesawlaw06.SetupEach', WHERE WHAT IT READS IS OF BULK AT MOST 1048576: true; the input reads as it did. -/
def setupEachUptoRow : OpenClaim := { program := "ytnkdaehmdcpafaadoor", sum := "309c8938042ffc9385d80ad709b022f2143a895631b2de2f88c3c8bf363709bf", func := "seesaw/seesawlaw06.SetupEach", spec := "setupEach", unfollowed := true, recurses := true, named := ["seesaw/code.kinds"], loops := true, apart := false, laid := [("seesaw/code.kinds", laid_seesaw_code_kinds)], narrowed := true }
def SetupEachUptoSaid : Prop := setupEachUptoRow.holds Tryd.pinned (OpenSpec.upto setupEachSpec)

/-- 'seesawlaw06.SetupParted', WHERE WHAT IT READS IS OF BULK AT MOST 1048576: true; the input reads as it did. -/
def setupPartedUptoRow : OpenClaim := { program := "ytnkdaehmdcpafaadoor", sum := "309c8938042ffc9385d80ad709b022f2143a895631b2de2f88c3c8bf363709bf", func := "seesaw/seesawlaw06.SetupParted", spec := "setupParted", unfollowed := true, recurses := true, named := ["seesaw/code.kinds"], apart := false, laid := [("seesaw/code.kinds", laid_seesaw_code_kinds)], narrowed := true }
def SetupPartedUptoSaid : Prop := setupPartedUptoRow.holds Tryd.pinned (OpenSpec.upto setupPartedSpec)

/-- 'seesawlaw06.SetupAlike', WHERE WHAT IT READS IS OF BULK AT MOST 1048576: true; the input reads as it did. -/
def setupAlikeUptoRow : OpenClaim := { program := "ytnkdaehmdcpafaadoor", sum := "309c8938042ffc9385d80ad709b022f2143a895631b2de2f88c3c8bf363709bf", func := "seesaw/seesawlaw06.SetupAlike", spec := "setupAlike", unfollowed := true, recurses := true, named := ["seesaw/code.kinds"], loops := true, apart := false, laid := [("seesaw/code.kinds", laid_seesaw_code_kinds)], narrowed := true }
def SetupAlikeUptoSaid : Prop := setupAlikeUptoRow.holds Tryd.pinned (OpenSpec.upto setupAlikeSpec)

/-- 'seesawlaw06.SetupLess', WHERE WHAT IT READS IS OF BULK AT MOST 1048576: true; the input reads as it did. -/
def setupLessUptoRow : OpenClaim := { program := "ytnkdaehmdcpafaadoor", sum := "309c8938042ffc9385d80ad709b022f2143a895631b2de2f88c3c8bf363709bf", func := "seesaw/seesawlaw06.SetupLess", spec := "setupLess", unfollowed := true, recurses := true, named := ["seesaw/code.kinds"], loops := true, apart := false, laid := [("seesaw/code.kinds", laid_seesaw_code_kinds)], narrowed := true }
def SetupLessUptoSaid : Prop := setupLessUptoRow.holds Tryd.pinned (OpenSpec.upto setupLessSpec)

end Rows
end Go.Proofs.YtnkdaehmdcpafaaDoor
