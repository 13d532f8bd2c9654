/-
  WHAT STAYS ABOVE A MARK, behind a call that left all that was there as it was. No condition.
-/
import Derived.Test.YtnkdaehmdcpafaaDoorCt
namespace Go.Proofs.YtnkdaehmdcpafaaDoor
open Go.RowKit Go.Shelf
set_option linter.unusedVariables false
attribute [local go_sem] Oper.semAt_some

theorem keeps_below {B : Nat} {W W' : World} (h : Below W.heap.size W W') : KeepsFrom B W W' := ⟨h.size, fun k o _ hk _ => (h.block k (Array.getElem?_eq_some_iff.1 hk).1).trans hk⟩
end Go.Proofs.YtnkdaehmdcpafaaDoor
