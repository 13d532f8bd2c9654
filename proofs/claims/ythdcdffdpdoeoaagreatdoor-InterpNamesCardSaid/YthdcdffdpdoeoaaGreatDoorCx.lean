/-
  CONTRACTS OF THE STATEMENTS' OWN lit, read, write, back (layer 5): what they build; the memory that was there stays as it was. No condition.
-/
import Derived.Test.YthdcdffdpdoeoaaGreatDoorCm
import Derived.Test.YthdcdffdpdoeoaaGreatDoorEv
namespace Go.Proofs.YthdcdffdpdoeoaaGreatDoor
set_option maxRecDepth 100000
open Go.RowKit
set_option linter.unusedVariables false
/-- The ten cells of a block, set. -/
theorem ten_set {w2 : World} {g : Nat} {T : TypeId} {z0 z1 z2 z3 z4 z5 z6 z7 z8 z9 : Value} (h : w2.heap[g]? = some (.cells #[z0, z1, z2, z3, z4, z5, z6, z7, z8, z9] T (0, 0))) (v0 v1 v2 v3 v4 v5 v6 v7 v8 v9 : Value) :
    ((((((((((w2.setCell ⟨g, 0, none⟩ v0).setCell ⟨g, 1, none⟩ v1).setCell ⟨g, 2, none⟩ v2).setCell ⟨g, 3, none⟩ v3).setCell ⟨g, 4, none⟩ v4).setCell ⟨g, 5, none⟩ v5).setCell ⟨g, 6, none⟩ v6).setCell ⟨g, 7, none⟩ v7).setCell ⟨g, 8, none⟩ v8).setCell ⟨g, 9, none⟩ v9).heap[g]? = some (.cells #[v0, v1, v2, v3, v4, v5, v6, v7, v8, v9] T (0, 0)) := by
  have r0 := heap_set_same _ g 0 v0 _ _ h
  simp only [List.setIfInBounds_toArray, List.set_cons_zero] at r0
  have r1 := heap_set_same _ g 1 v1 _ _ r0
  simp only [List.setIfInBounds_toArray, List.set_cons_succ, List.set_cons_zero] at r1
  have r2 := heap_set_same _ g 2 v2 _ _ r1
  simp only [List.setIfInBounds_toArray, List.set_cons_succ, List.set_cons_zero] at r2
  have r3 := heap_set_same _ g 3 v3 _ _ r2
  simp only [List.setIfInBounds_toArray, List.set_cons_succ, List.set_cons_zero] at r3
  have r4 := heap_set_same _ g 4 v4 _ _ r3
  simp only [List.setIfInBounds_toArray, List.set_cons_succ, List.set_cons_zero] at r4
  have r5 := heap_set_same _ g 5 v5 _ _ r4
  simp only [List.setIfInBounds_toArray, List.set_cons_succ, List.set_cons_zero] at r5
  have r6 := heap_set_same _ g 6 v6 _ _ r5
  simp only [List.setIfInBounds_toArray, List.set_cons_succ, List.set_cons_zero] at r6
  have r7 := heap_set_same _ g 7 v7 _ _ r6
  simp only [List.setIfInBounds_toArray, List.set_cons_succ, List.set_cons_zero] at r7
  have r8 := heap_set_same _ g 8 v8 _ _ r7
  simp only [List.setIfInBounds_toArray, List.set_cons_succ, List.set_cons_zero] at r8
  have r9 := heap_set_same _ g 9 v9 _ _ r8
  simp only [List.setIfInBounds_toArray, List.set_cons_succ, List.set_cons_zero] at r9
  exact r9
theorem ten_low {w w2 : World} {B g : Nat} (h : Below B w w2) (hg : B ≤ g) (v0 v1 v2 v3 v4 v5 v6 v7 v8 v9 : Value) : Below B w ((((((((((w2.setCell ⟨g, 0, none⟩ v0).setCell ⟨g, 1, none⟩ v1).setCell ⟨g, 2, none⟩ v2).setCell ⟨g, 3, none⟩ v3).setCell ⟨g, 4, none⟩ v4).setCell ⟨g, 5, none⟩ v5).setCell ⟨g, 6, none⟩ v6).setCell ⟨g, 7, none⟩ v7).setCell ⟨g, 8, none⟩ v8).setCell ⟨g, 9, none⟩ v9) :=
  (((((((((h.setCell (p := ⟨g, 0, none⟩) hg _).setCell (p := ⟨g, 1, none⟩) hg _).setCell (p := ⟨g, 2, none⟩) hg _).setCell (p := ⟨g, 3, none⟩) hg _).setCell (p := ⟨g, 4, none⟩) hg _).setCell (p := ⟨g, 5, none⟩) hg _).setCell (p := ⟨g, 6, none⟩) hg _).setCell (p := ⟨g, 7, none⟩) hg _).setCell (p := ⟨g, 8, none⟩) hg _).setCell (p := ⟨g, 9, none⟩) hg _
end Go.Proofs.YthdcdffdpdoeoaaGreatDoor
