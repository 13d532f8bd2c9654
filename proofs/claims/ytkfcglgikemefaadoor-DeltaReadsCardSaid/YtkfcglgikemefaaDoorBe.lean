/-
  CONTRACTS OF End's PARTS (layer 2): the closure that asks whether there are bytes still, and the one reading function at the empty structure. Conditions: texts of at most 2^24 bytes.
-/
import Derived.Test.YtkfcglgikemefaaDoorBr
namespace Go.Proofs.YtkfcglgikemefaaDoor
set_option maxRecDepth 100000
open Go.RowKit
set_option linter.unusedVariables false
theorem sr_of {w X : World} {g : Nat} {s : ByteArray} {at_ : Nat} (h0 : w.cell? ⟨g, 0, none⟩ = some (.string s)) (h1 : w.cell? ⟨g, 1, none⟩ = some (.int .i64 at_)) (hg : g < w.heap.size) (hb : Below w.heap.size w X) : SR w g s at_ X :=
  ⟨(hb.cell (p := ⟨g, 0, none⟩) hg).trans h0, (hb.cell (p := ⟨g, 1, none⟩) hg).trans h1, hb⟩
theorem bl2 (W : World) (o : Go.Obj) : Below W.heap.size W (W.alloc o).drew := ((Below.refl _ _).alloc (Nat.le_refl _) o).drew
theorem bl3 {W w3 : World} (b3 : Below W.drew.heap.size W.drew w3) : Below W.heap.size W w3 := (bl1 W).trans b3
theorem bl4 {W w3 : World} (b3 : Below W.drew.heap.size W.drew w3) (o : Go.Obj) : Below W.heap.size W (w3.alloc o) := (bl3 b3).alloc b3.size o
theorem bl5 {W w3 : World} {o : Go.Obj} (b3 : Below (W.alloc o).drew.heap.size (W.alloc o).drew w3) : Below W.heap.size W w3 := (bl2 W o).trans (b3.mono (by simp))
end Go.Proofs.YtkfcglgikemefaaDoor
