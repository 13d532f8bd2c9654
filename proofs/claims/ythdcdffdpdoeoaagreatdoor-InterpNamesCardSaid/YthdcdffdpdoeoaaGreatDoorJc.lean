/-
  WHAT IS ASKED OF A MACHINE (layer 9), call by call, and what a run of one comes to. Conditions: as they stand (Mach9 is proved of the program elsewhere).
-/
import Derived.Test.YthdcdffdpdoeoaaGreatDoorJb
import Derived.Test.YthdcdffdpdoeoaaGreatDoorZm
import Derived.Test.YthdcdffdpdoeoaaGreatDoorMa
import Derived.Test.YthdcdffdpdoeoaaGreatDoorZc
import Derived.BigQuiet
import Derived.Deep.RegionLawGrows
import Derived.Deep.DeepCutAuto
namespace Go.Proofs.YthdcdffdpdoeoaaGreatDoor
set_option maxRecDepth 100000
open Go.RowKit
set_option linter.unusedVariables false
theorem set14 {w2 : World} {g : Nat} {T : TypeId} {z0 z1 z2 z3 z4 z5 z6 z7 z8 z9 z10 z11 z12 z13 z14 : Value} (h : w2.heap[g]? = some (.cells #[z0, z1, z2, z3, z4, z5, z6, z7, z8, z9, z10, z11, z12, z13, z14] T (0, 0))) (v0 v1 v2 v3 v4 v5 v6 v7 v8 v9 v10 v11 v12 v14 : Value) :
    ((((((((((((((w2.setCell ⟨g, 0, none⟩ v0).setCell ⟨g, 1, none⟩ v1).setCell ⟨g, 2, none⟩ v2).setCell ⟨g, 3, none⟩ v3).setCell ⟨g, 4, none⟩ v4).setCell ⟨g, 5, none⟩ v5).setCell ⟨g, 6, none⟩ v6).setCell ⟨g, 7, none⟩ v7).setCell ⟨g, 8, none⟩ v8).setCell ⟨g, 9, none⟩ v9).setCell ⟨g, 10, none⟩ v10).setCell ⟨g, 11, none⟩ v11).setCell ⟨g, 12, none⟩ v12).setCell ⟨g, 14, none⟩ v14).heap[g]? = some (.cells #[v0, v1, v2, v3, v4, v5, v6, v7, v8, v9, v10, v11, v12, z13, v14] T (0, 0)) := by
  have r0 := heap_set_same _ g 0 v0 _ _ h
  simp only [List.setIfInBounds_toArray, List.set_cons_zero] at r0
  have r1 := heap_set_same _ g 1 v1 _ _ r0
  simp only [List.setIfInBounds_toArray, List.set_cons_succ, List.set_cons_zero] at r1
  have r2 := heap_set_same _ g 2 v2 _ _ r1
  simp only [List.setIfInBounds_toArray, List.set_cons_succ, List.set_cons_zero] at r2
  have r3 := heap_set_same _ g 3 v3 _ _ r2
  simp only [List.setIfInBounds_toArray, List.set_cons_succ, List.set_cons_zero] at r3
  have r4 := heap_set_same _ g 4 v4 _ _ r3
  simp only [List.setIfInBounds_toArray, List.set_cons_succ, List.set_cons_zero] at r4
  have r5 := heap_set_same _ g 5 v5 _ _ r4
  simp only [List.setIfInBounds_toArray, List.set_cons_succ, List.set_cons_zero] at r5
  have r6 := heap_set_same _ g 6 v6 _ _ r5
  simp only [List.setIfInBounds_toArray, List.set_cons_succ, List.set_cons_zero] at r6
  have r7 := heap_set_same _ g 7 v7 _ _ r6
  simp only [List.setIfInBounds_toArray, List.set_cons_succ, List.set_cons_zero] at r7
  have r8 := heap_set_same _ g 8 v8 _ _ r7
  simp only [List.setIfInBounds_toArray, List.set_cons_succ, List.set_cons_zero] at r8
  have r9 := heap_set_same _ g 9 v9 _ _ r8
  simp only [List.setIfInBounds_toArray, List.set_cons_succ, List.set_cons_zero] at r9
  have r10 := heap_set_same _ g 10 v10 _ _ r9
  simp only [List.setIfInBounds_toArray, List.set_cons_succ, List.set_cons_zero] at r10
  have r11 := heap_set_same _ g 11 v11 _ _ r10
  simp only [List.setIfInBounds_toArray, List.set_cons_succ, List.set_cons_zero] at r11
  have r12 := heap_set_same _ g 12 v12 _ _ r11
  simp only [List.setIfInBounds_toArray, List.set_cons_succ, List.set_cons_zero] at r12
  have r13 := heap_set_same _ g 14 v14 _ _ r12
  simp only [List.setIfInBounds_toArray, List.set_cons_succ, List.set_cons_zero] at r13
  exact r13
theorem set14_low {w w2 : World} {B g : Nat} (h : Below B w w2) (hg : B ≤ g) (v0 v1 v2 v3 v4 v5 v6 v7 v8 v9 v10 v11 v12 v14 : Value) : Below B w ((((((((((((((w2.setCell ⟨g, 0, none⟩ v0).setCell ⟨g, 1, none⟩ v1).setCell ⟨g, 2, none⟩ v2).setCell ⟨g, 3, none⟩ v3).setCell ⟨g, 4, none⟩ v4).setCell ⟨g, 5, none⟩ v5).setCell ⟨g, 6, none⟩ v6).setCell ⟨g, 7, none⟩ v7).setCell ⟨g, 8, none⟩ v8).setCell ⟨g, 9, none⟩ v9).setCell ⟨g, 10, none⟩ v10).setCell ⟨g, 11, none⟩ v11).setCell ⟨g, 12, none⟩ v12).setCell ⟨g, 14, none⟩ v14) :=
  ((((((((((((((h.setCell (p := ⟨g, 0, none⟩) hg _).setCell (p := ⟨g, 1, none⟩) hg _).setCell (p := ⟨g, 2, none⟩) hg _).setCell (p := ⟨g, 3, none⟩) hg _).setCell (p := ⟨g, 4, none⟩) hg _).setCell (p := ⟨g, 5, none⟩) hg _).setCell (p := ⟨g, 6, none⟩) hg _).setCell (p := ⟨g, 7, none⟩) hg _).setCell (p := ⟨g, 8, none⟩) hg _).setCell (p := ⟨g, 9, none⟩) hg _).setCell (p := ⟨g, 10, none⟩) hg _).setCell (p := ⟨g, 11, none⟩) hg _).setCell (p := ⟨g, 12, none⟩) hg _).setCell (p := ⟨g, 14, none⟩) hg _)
theorem set14_far {w2 : World} {g b : Nat} (hb : b ≠ g) (v0 v1 v2 v3 v4 v5 v6 v7 v8 v9 v10 v11 v12 v14 : Value) : ((((((((((((((w2.setCell ⟨g, 0, none⟩ v0).setCell ⟨g, 1, none⟩ v1).setCell ⟨g, 2, none⟩ v2).setCell ⟨g, 3, none⟩ v3).setCell ⟨g, 4, none⟩ v4).setCell ⟨g, 5, none⟩ v5).setCell ⟨g, 6, none⟩ v6).setCell ⟨g, 7, none⟩ v7).setCell ⟨g, 8, none⟩ v8).setCell ⟨g, 9, none⟩ v9).setCell ⟨g, 10, none⟩ v10).setCell ⟨g, 11, none⟩ v11).setCell ⟨g, 12, none⟩ v12).setCell ⟨g, 14, none⟩ v14).heap[b]? = w2.heap[b]? := ((Below.heap_setCell _ ⟨g, 14, none⟩ _ b hb).trans ((Below.heap_setCell _ ⟨g, 12, none⟩ _ b hb).trans ((Below.heap_setCell _ ⟨g, 11, none⟩ _ b hb).trans ((Below.heap_setCell _ ⟨g, 10, none⟩ _ b hb).trans ((Below.heap_setCell _ ⟨g, 9, none⟩ _ b hb).trans ((Below.heap_setCell _ ⟨g, 8, none⟩ _ b hb).trans ((Below.heap_setCell _ ⟨g, 7, none⟩ _ b hb).trans ((Below.heap_setCell _ ⟨g, 6, none⟩ _ b hb).trans ((Below.heap_setCell _ ⟨g, 5, none⟩ _ b hb).trans ((Below.heap_setCell _ ⟨g, 4, none⟩ _ b hb).trans ((Below.heap_setCell _ ⟨g, 3, none⟩ _ b hb).trans ((Below.heap_setCell _ ⟨g, 2, none⟩ _ b hb).trans ((Below.heap_setCell _ ⟨g, 1, none⟩ _ b hb).trans (Below.heap_setCell _ ⟨g, 0, none⟩ _ b hb))))))))))))))
theorem set15 {w2 : World} {g : Nat} {T : TypeId} {z0 z1 z2 z3 z4 z5 z6 z7 z8 z9 z10 z11 z12 z13 z14 : Value} (h : w2.heap[g]? = some (.cells #[z0, z1, z2, z3, z4, z5, z6, z7, z8, z9, z10, z11, z12, z13, z14] T (0, 0))) (v0 v1 v2 v3 v4 v5 v6 v7 v8 v9 v10 v11 v12 v13 v14 : Value) :
    (((((((((((((((w2.setCell ⟨g, 0, none⟩ v0).setCell ⟨g, 1, none⟩ v1).setCell ⟨g, 2, none⟩ v2).setCell ⟨g, 3, none⟩ v3).setCell ⟨g, 4, none⟩ v4).setCell ⟨g, 5, none⟩ v5).setCell ⟨g, 6, none⟩ v6).setCell ⟨g, 7, none⟩ v7).setCell ⟨g, 8, none⟩ v8).setCell ⟨g, 9, none⟩ v9).setCell ⟨g, 10, none⟩ v10).setCell ⟨g, 11, none⟩ v11).setCell ⟨g, 12, none⟩ v12).setCell ⟨g, 13, none⟩ v13).setCell ⟨g, 14, none⟩ v14).heap[g]? = some (.cells #[v0, v1, v2, v3, v4, v5, v6, v7, v8, v9, v10, v11, v12, v13, v14] T (0, 0)) := by
  have r0 := heap_set_same _ g 0 v0 _ _ h
  simp only [List.setIfInBounds_toArray, List.set_cons_zero] at r0
  have r1 := heap_set_same _ g 1 v1 _ _ r0
  simp only [List.setIfInBounds_toArray, List.set_cons_succ, List.set_cons_zero] at r1
  have r2 := heap_set_same _ g 2 v2 _ _ r1
  simp only [List.setIfInBounds_toArray, List.set_cons_succ, List.set_cons_zero] at r2
  have r3 := heap_set_same _ g 3 v3 _ _ r2
  simp only [List.setIfInBounds_toArray, List.set_cons_succ, List.set_cons_zero] at r3
  have r4 := heap_set_same _ g 4 v4 _ _ r3
  simp only [List.setIfInBounds_toArray, List.set_cons_succ, List.set_cons_zero] at r4
  have r5 := heap_set_same _ g 5 v5 _ _ r4
  simp only [List.setIfInBounds_toArray, List.set_cons_succ, List.set_cons_zero] at r5
  have r6 := heap_set_same _ g 6 v6 _ _ r5
  simp only [List.setIfInBounds_toArray, List.set_cons_succ, List.set_cons_zero] at r6
  have r7 := heap_set_same _ g 7 v7 _ _ r6
  simp only [List.setIfInBounds_toArray, List.set_cons_succ, List.set_cons_zero] at r7
  have r8 := heap_set_same _ g 8 v8 _ _ r7
  simp only [List.setIfInBounds_toArray, List.set_cons_succ, List.set_cons_zero] at r8
  have r9 := heap_set_same _ g 9 v9 _ _ r8
  simp only [List.setIfInBounds_toArray, List.set_cons_succ, List.set_cons_zero] at r9
  have r10 := heap_set_same _ g 10 v10 _ _ r9
  simp only [List.setIfInBounds_toArray, List.set_cons_succ, List.set_cons_zero] at r10
  have r11 := heap_set_same _ g 11 v11 _ _ r10
  simp only [List.setIfInBounds_toArray, List.set_cons_succ, List.set_cons_zero] at r11
  have r12 := heap_set_same _ g 12 v12 _ _ r11
  simp only [List.setIfInBounds_toArray, List.set_cons_succ, List.set_cons_zero] at r12
  have r13 := heap_set_same _ g 13 v13 _ _ r12
  simp only [List.setIfInBounds_toArray, List.set_cons_succ, List.set_cons_zero] at r13
  have r14 := heap_set_same _ g 14 v14 _ _ r13
  simp only [List.setIfInBounds_toArray, List.set_cons_succ, List.set_cons_zero] at r14
  exact r14
theorem set15_low {w w2 : World} {B g : Nat} (h : Below B w w2) (hg : B ≤ g) (v0 v1 v2 v3 v4 v5 v6 v7 v8 v9 v10 v11 v12 v13 v14 : Value) : Below B w (((((((((((((((w2.setCell ⟨g, 0, none⟩ v0).setCell ⟨g, 1, none⟩ v1).setCell ⟨g, 2, none⟩ v2).setCell ⟨g, 3, none⟩ v3).setCell ⟨g, 4, none⟩ v4).setCell ⟨g, 5, none⟩ v5).setCell ⟨g, 6, none⟩ v6).setCell ⟨g, 7, none⟩ v7).setCell ⟨g, 8, none⟩ v8).setCell ⟨g, 9, none⟩ v9).setCell ⟨g, 10, none⟩ v10).setCell ⟨g, 11, none⟩ v11).setCell ⟨g, 12, none⟩ v12).setCell ⟨g, 13, none⟩ v13).setCell ⟨g, 14, none⟩ v14) :=
  (((((((((((((((h.setCell (p := ⟨g, 0, none⟩) hg _).setCell (p := ⟨g, 1, none⟩) hg _).setCell (p := ⟨g, 2, none⟩) hg _).setCell (p := ⟨g, 3, none⟩) hg _).setCell (p := ⟨g, 4, none⟩) hg _).setCell (p := ⟨g, 5, none⟩) hg _).setCell (p := ⟨g, 6, none⟩) hg _).setCell (p := ⟨g, 7, none⟩) hg _).setCell (p := ⟨g, 8, none⟩) hg _).setCell (p := ⟨g, 9, none⟩) hg _).setCell (p := ⟨g, 10, none⟩) hg _).setCell (p := ⟨g, 11, none⟩) hg _).setCell (p := ⟨g, 12, none⟩) hg _).setCell (p := ⟨g, 13, none⟩) hg _).setCell (p := ⟨g, 14, none⟩) hg _)
theorem set15_far {w2 : World} {g b : Nat} (hb : b ≠ g) (v0 v1 v2 v3 v4 v5 v6 v7 v8 v9 v10 v11 v12 v13 v14 : Value) : (((((((((((((((w2.setCell ⟨g, 0, none⟩ v0).setCell ⟨g, 1, none⟩ v1).setCell ⟨g, 2, none⟩ v2).setCell ⟨g, 3, none⟩ v3).setCell ⟨g, 4, none⟩ v4).setCell ⟨g, 5, none⟩ v5).setCell ⟨g, 6, none⟩ v6).setCell ⟨g, 7, none⟩ v7).setCell ⟨g, 8, none⟩ v8).setCell ⟨g, 9, none⟩ v9).setCell ⟨g, 10, none⟩ v10).setCell ⟨g, 11, none⟩ v11).setCell ⟨g, 12, none⟩ v12).setCell ⟨g, 13, none⟩ v13).setCell ⟨g, 14, none⟩ v14).heap[b]? = w2.heap[b]? := ((Below.heap_setCell _ ⟨g, 14, none⟩ _ b hb).trans ((Below.heap_setCell _ ⟨g, 13, none⟩ _ b hb).trans ((Below.heap_setCell _ ⟨g, 12, none⟩ _ b hb).trans ((Below.heap_setCell _ ⟨g, 11, none⟩ _ b hb).trans ((Below.heap_setCell _ ⟨g, 10, none⟩ _ b hb).trans ((Below.heap_setCell _ ⟨g, 9, none⟩ _ b hb).trans ((Below.heap_setCell _ ⟨g, 8, none⟩ _ b hb).trans ((Below.heap_setCell _ ⟨g, 7, none⟩ _ b hb).trans ((Below.heap_setCell _ ⟨g, 6, none⟩ _ b hb).trans ((Below.heap_setCell _ ⟨g, 5, none⟩ _ b hb).trans ((Below.heap_setCell _ ⟨g, 4, none⟩ _ b hb).trans ((Below.heap_setCell _ ⟨g, 3, none⟩ _ b hb).trans ((Below.heap_setCell _ ⟨g, 2, none⟩ _ b hb).trans ((Below.heap_setCell _ ⟨g, 1, none⟩ _ b hb).trans (Below.heap_setCell _ ⟨g, 0, none⟩ _ b hb)))))))))))))))
/-- Behind a call: a machine in the state m, in blocks that were its own, or new. -/
def After9 (M : World → Nat → (Nat → Prop) → Int → List Int → PM → Prop) (w : World) (q : Nat) (S : Nat → Prop) (vars : Int) (got : List Int) (m : PM) (w' : World) : Prop := ∃ S', M w' q S' vars got m ∧ (∀ b, S' b → S b ∨ w.heap.size ≤ b) ∧ Fro S w w'
/-- What is asked of machines as they lie (M: the world, where, its own blocks, how many variables, what was returned, its state). -/
structure Mach9 (M : World → Nat → (Nat → Prop) → Int → List Int → PM → Prop) : Prop where
  lt : ∀ {w q S vars got m}, M w q S vars got m → ∀ b, S b → b < w.heap.size
  keep : ∀ {w w' q S S2 vars got m}, M w q S vars got m → Fro S2 w w' → (∀ b, S b → ¬ S2 b) → M w' q S vars got m
  len : ∀ {w q S vars got m}, M w q S vars got m → m.l.length = 8
  new : ∀ (D : Nat) (A : Option Addr) (c : Nat) (tx : List St) (vars : Int) (G : Option Addr) (cg : Nat) (got : List Int) (w : World), Kd w → SK w D A tx → D ≤ 1000 → tx.length ≤ 1000 → 1 ≤ vars → vars ≤ 32 → Ints w w.heap.size G got → got.length ≤ 1000 → (∀ e ∈ got, wfI e) → mayF D tx got.length = true →
    Calls Tryz.prog 12 #[.slice A tx.length c, .int .i64 vars, .slice G got.length cg] w fun e w' => ∃ q S, e = .returned (.tuple #[.pointer (some ⟨q, 0, none⟩), .int .i64 0]) ∧ M w' q S vars got (startI tx) ∧ (∀ b, S b → w.heap.size ≤ b) ∧ Below w.heap.size w w'
  next : ∀ {w q S vars got m}, M w q S vars got m → m.n ≤ 900 → Calls Tryz.prog 5 #[.pointer (some ⟨q, 0, none⟩)] w fun e w' => e = .returned (.agg #[.int .u8 (nextI vars got m).1, .int .i64 (nextI vars got m).2.1, .int .i64 (nextI vars got m).2.2]) ∧ After9 M w q S vars got m w'
  step : ∀ {w q S vars got m}, M w q S vars got m → m.n ≤ 900 → (nextI vars got m).1 = 1 → Calls Tryz.prog 6 #[.pointer (some ⟨q, 0, none⟩)] w fun e w' => e = .returned (.int .i64 0) ∧ After9 M w q S vars got (stepI vars got m) w'
  answer : ∀ {w q S vars got m}, M w q S vars got m → m.n ≤ 900 → (nextI vars got m).1 = 2 → ∀ x : Int, wfI x → Calls Tryz.prog 7 #[.pointer (some ⟨q, 0, none⟩), .int .i64 x] w fun e w' => e = .returned (.int .i64 0) ∧ After9 M w q S vars got (answerI x m) w'
  writes : ∀ {w q S vars got m}, M w q S vars got m → m.n ≤ 900 → Calls Tryz.prog 8 #[.pointer (some ⟨q, 0, none⟩)] w fun e w' => ∃ B d S', e = .returned (.slice B (allS m.w).length d) ∧ M w' q S' vars got m ∧ (∀ b, S' b → S b ∨ w.heap.size ≤ b) ∧ Fro S w w' ∧ PairsAt w' w'.heap.size B (allS m.w) ∧ (allS m.w).length ≤ 5000 ∧ (allS m.w ≠ [] → ∀ p, B = some p → w.heap.size ≤ p.block ∧ ¬ S' p.block)
  locals : ∀ {w q S vars got m}, M w q S vars got m → Calls Tryz.prog 11 #[.pointer (some ⟨q, 0, none⟩)] w fun e w' => e = .returned (.agg (m.l.map (Value.int .i64)).toArray) ∧ After9 M w q S vars got m w'
  steps : ∀ {w q S vars got m}, M w q S vars got m → m.n ≤ 900 → Calls Tryz.prog 9 #[.pointer (some ⟨q, 0, none⟩)] w fun e w' => e = .returned (.int .i64 m.n) ∧ After9 M w q S vars got m w'
theorem stepI_n (vars : Int) (got : List Int) (m : PM) : (stepI vars got m).n ≤ m.n + 1 := by
  unfold stepI
  split <;> try exact Nat.le_succ _
  split <;> try exact Nat.le_refl _
  split <;> first | exact Nat.le_refl _ | exact Nat.le_succ _
theorem answerI_n (x : Int) (m : PM) : (answerI x m).n ≤ m.n + 1 := by
  unfold answerI
  split <;> first | exact Nat.le_refl _ | exact Nat.le_succ _
theorem stepI_ge (vars : Int) (got : List Int) (m : PM) : m.n ≤ (stepI vars got m).n := by
  unfold stepI
  split <;> try exact Nat.le_refl _
  split <;> try exact Nat.le_succ _
  split <;> first | exact Nat.le_refl _ | exact Nat.le_succ _
theorem answerI_ge (x : Int) (m : PM) : m.n ≤ (answerI x m).n := by
  unfold answerI
  split <;> first | exact Nat.le_refl _ | exact Nat.le_succ _
theorem runI_n {vars : Int} {got : List Int} {val : Int → Int} : ∀ {f : Nat} {m : PM} {r : End9}, runI vars got val f m = some r → m.n ≤ r.n := by
  intro f
  induction f with
  | zero => intro m r h; cases h
  | succ f ih =>
    intro m r h
    rw [runI] at h
    try dsimp only at h
    split at h
    · exact Nat.le_trans (stepI_ge _ _ _) (ih h)
    · split at h
      · split at h
        · cases h
        · exact Nat.le_trans (answerI_ge _ _) (ih h)
      · injection h with h
        rw [← h]
        exact Nat.le_refl _
/-- How a run stands: the result's block and out's (behind w), the machine at q, what was asked for. -/
structure R9 (M : World → Nat → (Nat → Prop) → Int → List Int → PM → Prop) (w : World) (q : Nat) (S : Nat → Prop) (vars : Int) (got : List Int) (m : PM) (v : Value) (n : Nat) (wr : World) : Prop where
  m : M wr q S vars got m
  new : ∀ b, S b → w.heap.size + 2 ≤ b
  row : ∃ xs, wr.ownsRow (w.heap.size + 2) 3 1 v n xs
  rowS : ∀ r, v.ownBlock = some r → ¬ S r
  res : wr.heap[w.heap.size]? = some (.cells #[.int .u8 0, .int .i64 0, .int .i64 0, .slice none 0 0, .int .i64 0, .int .i64 0, .int .i64 0, .int .i64 0, .int .i64 0, .int .i64 0, .int .i64 0, .int .i64 0, .int .i64 0, .slice none 0 0, .bool false] 48 (0, 0))
  out : wr.heap[w.heap.size + 1]? = some (.cells #[.int .u8 0, .int .i64 0, .int .i64 0, .slice none 0 0, .int .i64 0, .int .i64 0, .int .i64 0, .int .i64 0, .int .i64 0, .int .i64 0, .int .i64 0, .int .i64 0, .int .i64 0, v, .bool false] 48 (0, 0))
  low : Below w.heap.size w wr
theorem row_keep {w w' : World} {base : Nat} {t : TypeId} {size : Nat} {v : Value} {n : Nat} {xs : List Value} (h : w.ownsRow base t size v n xs) (hk : ∀ r, v.ownBlock = some r → w'.heap[r]? = w.heap[r]?) : w'.ownsRow base t size v n xs := by
  refine ⟨h.1, ?_⟩
  rcases h.2 with h2 | ⟨g, cap, cur, rfl, h3, h4, h5⟩
  · exact .inl h2
  · exact .inr ⟨g, cap, cur, rfl, h3, (hk g rfl).trans h4, h5⟩
section
variable {M : World → Nat → (Nat → Prop) → Int → List Int → PM → Prop} {w : World} {q : Nat} {S : Nat → Prop} {vars : Int} {got : List Int} {m : PM} {v : Value} {n : Nat} {wr : World}
theorem R9.fro (h : R9 M w q S vars got m v n wr) {S' : Nat → Prop} {m' : PM} {w' : World} (hm : M w' q S' vars got m') (hS' : ∀ b, S' b → S b ∨ wr.heap.size ≤ b) (hF : Fro S wr w') : R9 M w q S' vars got m' v n w' := by
  have hz : w.heap.size + 1 < wr.heap.size := (Array.getElem?_eq_some_iff.1 h.out).1
  obtain ⟨xs, hr⟩ := h.row
  refine ⟨hm, fun b hb => ?_, ⟨xs, row_keep hr fun r e => hF.block r (hr.lt r e).2 (h.rowS r e)⟩, fun r e hs => ?_, (hF.block _ (by omega) (fun hs => by have := h.new _ hs; omega)).trans h.res, (hF.block _ (by omega) (fun hs => by have := h.new _ hs; omega)).trans h.out, h.low.trans (hF.below (fun i hi => by have := h.new i hi; omega) h.low.size)⟩
  · rcases hS' b hb with hb | hb
    · exact h.new b hb
    · omega
  · rcases hS' r hs with hs | hs
    · exact h.rowS r e hs
    · have := (hr.lt r e).2; omega
theorem R9.call (h : R9 M w q S vars got m v n wr) {m' : PM} {w' : World} (ha : After9 M wr q S vars got m' w') : ∃ S', R9 M w q S' vars got m' v n w' ∧ (∀ b, S' b → S b ∨ wr.heap.size ≤ b) ∧ Fro S wr w' := by
  obtain ⟨S', hm, hs, hF⟩ := ha
  exact ⟨S', h.fro hm hs hF, hs, hF⟩
theorem R9.below (hM : Mach9 M) (h : R9 M w q S vars got m v n wr) {w' : World} (hB : Below wr.heap.size wr w') : R9 M w q S vars got m v n w' :=
  h.fro (hM.keep h.m (Fro.of_below (S := fun _ => False) hB (Nat.le_refl _)) (fun _ _ h => h)) (fun b h => .inl h) (Fro.of_below hB (Nat.le_refl _))
/-- A block that is not the machine's stays so. -/
theorem far9 {S S' : Nat → Prop} {wr w' : World} {b : Nat} {o : Obj} (hb : wr.heap[b]? = some o) (hn : ¬ S b) (hS' : ∀ b, S' b → S b ∨ wr.heap.size ≤ b) (hF : Fro S wr w') : w'.heap[b]? = some o ∧ ¬ S' b := by
  have hl := (Array.getElem?_eq_some_iff.1 hb).1
  refine ⟨(hF.block b hl hn).trans hb, fun h => ?_⟩
  rcases hS' b h with h | h
  · exact hn h
  · omega
theorem ask_cells {w : World} {b : Nat} {x y z : Value} {t : TypeId} (h : w.heap[b]? = some (.cells #[x, y, z] t (0, 0))) : w.cell? ⟨b, 0, none⟩ = some x ∧ w.cell? ⟨b, 1, none⟩ = some y ∧ w.cell? ⟨b, 2, none⟩ = some z := by simp [World.cell?, h]
end
theorem pairs_stay9 {w w' : World} {A : Option Addr} {l : List Pr} (h : PairsAt w w.heap.size A l) (hz : w.heap.size ≤ w'.heap.size) (hk : l ≠ [] → ∀ p, A = some p → w'.heap[p.block]? = w.heap[p.block]?) : PairsAt w' w'.heap.size A l := fun k hk2 => by
  obtain ⟨p, e, b, c1, c2⟩ := h k hk2
  have hb := hk (fun e => by rw [e] at hk2; exact absurd hk2 (by simp)) p e
  exact ⟨p, e, by omega, (World.cell?_of_block (a := p.add (k * 2)) (by rw [ad8_block]; exact hb)).trans c1, (World.cell?_of_block (a := ⟨(p.add (k * 2)).block, (p.add (k * 2)).off + 1, none⟩) (by show _[(p.add (k * 2)).block]? = _; rw [ad8_block]; exact hb)).trans c2⟩
theorem pairs_lt9 {w : World} {hi : Nat} {A : Option Addr} {l : List Pr} (h : PairsAt w hi A l) (he : l ≠ []) {p : Addr} (e : A = some p) : p.block < hi := by
  obtain ⟨p', e', b, _⟩ := h 0 (List.length_pos_iff.2 he)
  rw [e] at e'
  injection e' with e'
  rw [e']
  exact b
theorem int_info9 : (Tryz.prog.info? 3).map (fun i => (i.zero, i.size, i.bytes)) = some (some (.int .i64 0), 1, 8) := by kernel_rfl
theorem list_int {ops : Array Oper} {rest : List Oper} {o : Oper} {a : Act} {Q : Exit → Act → World → Prop} {wr : World} {base n : Nat} {v : Value} {xs : List Value} (hgd : o.guard = none) (s x : Operand)
    (ho : o.op = .call { callee := .builtin .append, args := #[s, x], argTypes := #[46, 46] }) (hs : a.eval s = v) (hown : wr.ownsRow base 3 1 v n xs) (hn : n ≤ 3000) (u : Int) (hx : a.eval x = .slice (some ⟨wr.heap.size, 0, none⟩) 1 1) (hbase : base ≤ wr.heap.size)
    (h : ∀ g cap w', w'.ownsRow base 3 1 (.slice (some ⟨g, 0, none⟩) (n + 1) cap) (n + 1) (xs ++ [.int .i64 u]) → (wr.alloc (.cells #[.int .i64 u] 3)).grownBy w' v.ownBlock → (v.ownBlock = some g ∨ g = wr.heap.size + 1) → g < w'.heap.size → wpList Tryz.prog ops Q rest (a.put o.dst (.slice (some ⟨g, 0, none⟩) (n + 1) cap)) w') : wpList Tryz.prog ops Q (o :: rest) a (wr.alloc (.cells #[.int .i64 u] 3)) := by
  obtain ⟨i0, hi0, hz0, hz1, hz2⟩ := info_parts int_info9
  have zz : (wr.alloc (.cells #[.int .i64 u] 3)).heap.size = wr.heap.size + 1 := by simp
  exact wpList_append_lies _ hgd s x _ ho base 3 i0 _ 1 8 Tryz.underlying46 hi0 hz0 hz1 hz2 rfl (by omega) v n xs hs (hown.alloc _) ⟨wr.heap.size, 0, none⟩ 1 1 [.int .i64 u] hx rfl (World.news_of_block (cs := #[.int .i64 u]) (t := 3) (fr := (0, 0)) (World.alloc_heap_new wr _)) (by intro u hu; simp at hu; rw [hu]; rfl) (by omega) (by unfold maxLen; omega) (by omega) (by rw [zz]; omega) (wr.heap.size + 1) zz h
section
variable {M : World → Nat → (Nat → Prop) → Int → List Int → PM → Prop} {w : World} {q : Nat} {S : Nat → Prop} {vars : Int} {got : List Int} {m : PM} {v : Value} {n : Nat} {wr : World}
theorem R9.append (hM : Mach9 M) (h : R9 M w q S vars got m v n wr) {o : Obj} {v' : Value} {w' : World} {xs' : List Value} {g cap : Nat} (hv : v' = .slice (some ⟨g, 0, none⟩) (n + 1) cap) (hown : w'.ownsRow (w.heap.size + 2) 3 1 v' (n + 1) xs') (hg : (wr.alloc o).grownBy w' v.ownBlock) (hat : v.ownBlock = some g ∨ g = wr.heap.size + 1) :
    R9 M w q S vars got m v' (n + 1) (w'.setCell ⟨w.heap.size + 1, 13, none⟩ v') ∧ ∀ b, b < wr.heap.size → b ≠ w.heap.size + 1 → v.ownBlock ≠ some b → (w'.setCell ⟨w.heap.size + 1, 13, none⟩ v').heap[b]? = wr.heap[b]? := by
  have hz : w.heap.size + 1 < wr.heap.size := (Array.getElem?_eq_some_iff.1 h.out).1
  obtain ⟨xs, hr⟩ := h.row
  have hrl : ∀ r, v.ownBlock = some r → w.heap.size + 2 ≤ r := fun r e => (hr.lt r e).1
  have k1 : ∀ b, b < wr.heap.size → v.ownBlock ≠ some b → w'.heap[b]? = wr.heap[b]? := fun b hb hn => (hg.block b (by simp; omega) (fun e => hn e.symm)).trans (Below.heap_alloc wr o b hb)
  have k2 : ∀ b, b ≠ w.heap.size + 1 → (w'.setCell ⟨w.heap.size + 1, 13, none⟩ v').heap[b]? = w'.heap[b]? := fun b hb => Below.heap_setCell w' ⟨w.heap.size + 1, 13, none⟩ _ b hb
  have hgl := hM.lt h.m
  have hsz : wr.heap.size ≤ w'.heap.size := by have := hg.size; simp at this; omega
  have hzs : (w'.setCell ⟨w.heap.size + 1, 13, none⟩ v').heap.size = w'.heap.size := by simp [World.setCell]
  have hg1 : g ≠ w.heap.size + 1 := by
    rcases hat with e | e
    · have := hrl g e; omega
    · omega
  have hF : Fro (fun b => v.ownBlock = some b ∨ b = w.heap.size + 1) wr (w'.setCell ⟨w.heap.size + 1, 13, none⟩ v') := by
    refine ⟨?_, ?_, ?_, by rw [hzs]; exact hsz, fun b hb hn => (k2 b (fun e => hn (.inr e))).trans (k1 b hb (fun e => hn (.inl e)))⟩
    · exact hg.os
    · exact hg.tape
    · exact hg.output
  have hm := hM.keep h.m hF (fun b hs e => by
    rcases e with e | e
    · exact h.rowS b e hs
    · have := h.new b hs; omega)
  refine ⟨⟨hm, h.new, ⟨xs', row_keep hown fun r e => k2 r (by rw [hv] at e; injection e with e; have e : g = r := e; omega)⟩, fun r e hs => ?_, (k2 _ (by omega)).trans ((k1 _ (by omega) (fun e => by have := hrl _ e; omega)).trans h.res), ?_, h.low.trans (hF.below (fun i hi => by
      rcases hi with hi | hi
      · have := hrl i hi; omega
      · omega) h.low.size)⟩, fun b h1 h2 h3 => (k2 b h2).trans (k1 b h1 h3)⟩
  · rw [hv] at e
    injection e with e
    have e : g = r := e
    subst e
    rcases hat with e | e
    · exact h.rowS g e hs
    · have := hgl g hs; omega
  · have ho := (k1 (w.heap.size + 1) (by omega) (fun e => by have := hrl _ e; omega)).trans h.out
    have := heap_set_same _ (w.heap.size + 1) 13 v' _ _ ho
    simpa using this
end
theorem ints_wide {w : World} {hi hi' : Nat} {A : Option Addr} {xs : List Int} (h : Ints w hi A xs) (hh : hi ≤ hi') : Ints w hi' A xs := ⟨h.len, fun k hk => by obtain ⟨a, e, b, c⟩ := h.cell k hk; exact ⟨a, e, by omega, c⟩⟩
theorem runI_inner {vars : Int} {got : List Int} {val : Int → Int} {f : Nat} {m : PM} {r : End9} (h : runI vars got val (f + 1) m = some r) (h1 : (nextI vars got m).1 = 1) : runI vars got val f (stepI vars got m) = some r := by
  rw [runI] at h
  simpa [h1] using h
theorem runI_asks {vars : Int} {got : List Int} {val : Int → Int} {f : Nat} {m : PM} {r : End9} (h : runI vars got val (f + 1) m = some r) (h1 : (nextI vars got m).1 = 2) : (∀ p ∈ allS m.w, p.1 ≠ (nextI vars got m).2.1) ∧ 0 ≤ (nextI vars got m).2.1 ∧ (nextI vars got m).2.1 < vars ∧ runI vars got val f (answerI (val (nextI vars got m).2.1) m) = some r := by
  rw [runI] at h
  simp only [h1] at h
  rw [if_neg (by decide), if_pos trivial] at h
  split at h
  · cases h
  · rename_i hn
    simp only [Bool.or_eq_true, not_or, Bool.not_eq_true, List.any_eq_false, decide_eq_false_iff_not, beq_iff_eq] at hn
    exact ⟨fun p hp => hn.1.1 p hp, by omega, by omega, h⟩
theorem runI_ends {vars : Int} {got : List Int} {val : Int → Int} {f : Nat} {m : PM} {r : End9} (h : runI vars got val (f + 1) m = some r) (h1 : (nextI vars got m).1 ≠ 1) (h2 : (nextI vars got m).1 ≠ 2) : r = ⟨(nextI vars got m).1, (nextI vars got m).2.1, (nextI vars got m).2.2, allS m.w, m.l, m.n⟩ := by
  rw [runI] at h
  simp only [h1, h2, if_false] at h
  exact (Option.some.inj h).symm
/-- What a run leaves, as a value. -/
def endV (r : End9) (B : Option Addr) (d : Nat) (va : Value) : Value := .agg (#[.int .u8 r.k, .int .i64 r.at_, .int .i64 r.x, .slice B r.w.length d] ++ (r.l.map (Value.int .i64)).toArray ++ #[.int .i64 r.n, va, .bool true])
set_option maxRecDepth 100000 in
set_option maxHeartbeats 8000000 in
theorem run9_any {M : World → Nat → (Nat → Prop) → Int → List Int → PM → Prop} (hM : Mach9 M) (D : Nat) (A : Option Addr) (c : Nat) (tx : List St) (vars : Int) (G : Option Addr) (cg : Nat) (got : List Int) (g : Nat) (X : Option Addr) (cx : Nat) (l : List Int) (w : World) (hkd : Kd w) (hk : SK w D A tx) (hD : D ≤ 1000) (hl : tx.length ≤ 1000) (hv1 : 1 ≤ vars) (hv2 : vars ≤ 32) (hgot : Ints w w.heap.size G got) (hgl : got.length ≤ 1000) (hgw : ∀ e ∈ got, wfI e) (hmay : mayF D tx got.length = true)
    (hc : w.cell? ⟨g, 0, none⟩ = some (.slice X l.length cx)) (hg : g < w.heap.size) (hx : Ints w w.heap.size X l) (hwf : ∀ e ∈ l, wfI e) (res : End9) (hres : runI vars got (valL l) 2001 (startI tx) = some res) (hr9 : res.n ≤ 900) :
    Calls Tryz.prog 14 #[.slice A tx.length c, .int .i64 vars, .slice G got.length cg, .func (.func 39) #[] #[.pointer (some ⟨g, 0, none⟩)]] w fun e w' => ∃ B d VA vn vc, e = .returned (endV res B d (.slice VA vn vc)) ∧ PairsAt w' w'.heap.size B res.w ∧ Below w.heap.size w w' := by
  have h1 : Below w.heap.size w (w.alloc (.cells #[.int .u8 0, .int .i64 0, .int .i64 0, .slice none 0 0, .int .i64 0, .int .i64 0, .int .i64 0, .int .i64 0, .int .i64 0, .int .i64 0, .int .i64 0, .int .i64 0, .int .i64 0, .slice none 0 0, .bool false] 48)) := (Below.refl _ w).alloc (Nat.le_refl _) _
  have z1 : (w.alloc (.cells #[.int .u8 0, .int .i64 0, .int .i64 0, .slice none 0 0, .int .i64 0, .int .i64 0, .int .i64 0, .int .i64 0, .int .i64 0, .int .i64 0, .int .i64 0, .int .i64 0, .int .i64 0, .slice none 0 0, .bool false] 48)).heap.size = w.heap.size + 1 := by simp
  have h2 : Below w.heap.size w ((w.alloc (.cells #[.int .u8 0, .int .i64 0, .int .i64 0, .slice none 0 0, .int .i64 0, .int .i64 0, .int .i64 0, .int .i64 0, .int .i64 0, .int .i64 0, .int .i64 0, .int .i64 0, .int .i64 0, .slice none 0 0, .bool false] 48)).alloc (.cells #[.int .u8 0, .int .i64 0, .int .i64 0, .slice none 0 0, .int .i64 0, .int .i64 0, .int .i64 0, .int .i64 0, .int .i64 0, .int .i64 0, .int .i64 0, .int .i64 0, .int .i64 0, .slice none 0 0, .bool false] 48)) := h1.alloc (by omega) _
  have z2 : ((w.alloc (.cells #[.int .u8 0, .int .i64 0, .int .i64 0, .slice none 0 0, .int .i64 0, .int .i64 0, .int .i64 0, .int .i64 0, .int .i64 0, .int .i64 0, .int .i64 0, .int .i64 0, .int .i64 0, .slice none 0 0, .bool false] 48)).alloc (.cells #[.int .u8 0, .int .i64 0, .int .i64 0, .slice none 0 0, .int .i64 0, .int .i64 0, .int .i64 0, .int .i64 0, .int .i64 0, .int .i64 0, .int .i64 0, .int .i64 0, .int .i64 0, .slice none 0 0, .bool false] 48)).heap.size = w.heap.size + 2 := by simp
  have ho : ((w.alloc (.cells #[.int .u8 0, .int .i64 0, .int .i64 0, .slice none 0 0, .int .i64 0, .int .i64 0, .int .i64 0, .int .i64 0, .int .i64 0, .int .i64 0, .int .i64 0, .int .i64 0, .int .i64 0, .slice none 0 0, .bool false] 48)).alloc (.cells #[.int .u8 0, .int .i64 0, .int .i64 0, .slice none 0 0, .int .i64 0, .int .i64 0, .int .i64 0, .int .i64 0, .int .i64 0, .int .i64 0, .int .i64 0, .int .i64 0, .int .i64 0, .slice none 0 0, .bool false] 48)).heap[w.heap.size + 1]? = some (.cells #[.int .u8 0, .int .i64 0, .int .i64 0, .slice none 0 0, .int .i64 0, .int .i64 0, .int .i64 0, .int .i64 0, .int .i64 0, .int .i64 0, .int .i64 0, .int .i64 0, .int .i64 0, .slice none 0 0, .bool false] 48 (0, 0)) := alloc_at _ _ _ (by simp)
  have hr : ((w.alloc (.cells #[.int .u8 0, .int .i64 0, .int .i64 0, .slice none 0 0, .int .i64 0, .int .i64 0, .int .i64 0, .int .i64 0, .int .i64 0, .int .i64 0, .int .i64 0, .int .i64 0, .int .i64 0, .slice none 0 0, .bool false] 48)).alloc (.cells #[.int .u8 0, .int .i64 0, .int .i64 0, .slice none 0 0, .int .i64 0, .int .i64 0, .int .i64 0, .int .i64 0, .int .i64 0, .int .i64 0, .int .i64 0, .int .i64 0, .int .i64 0, .slice none 0 0, .bool false] 48)).heap[w.heap.size]? = some (.cells #[.int .u8 0, .int .i64 0, .int .i64 0, .slice none 0 0, .int .i64 0, .int .i64 0, .int .i64 0, .int .i64 0, .int .i64 0, .int .i64 0, .int .i64 0, .int .i64 0, .int .i64 0, .slice none 0 0, .bool false] 48 (0, 0)) := (Below.heap_alloc _ _ w.heap.size (by simp)).trans (alloc_at _ _ _ rfl)
  go_enter Tryz.func14, Tryz.ntmps14
  go_upto_region 2 with fail
  obtain ⟨W2, hW2⟩ : ∃ W, W = (w.alloc (.cells #[.int .u8 0, .int .i64 0, .int .i64 0, .slice none 0 0, .int .i64 0, .int .i64 0, .int .i64 0, .int .i64 0, .int .i64 0, .int .i64 0, .int .i64 0, .int .i64 0, .int .i64 0, .slice none 0 0, .bool false] 48)).alloc (.cells #[.int .u8 0, .int .i64 0, .int .i64 0, .slice none 0 0, .int .i64 0, .int .i64 0, .int .i64 0, .int .i64 0, .int .i64 0, .int .i64 0, .int .i64 0, .int .i64 0, .int .i64 0, .slice none 0 0, .bool false] 48) := ⟨_, rfl⟩
  rw [← hW2] at h2 z2 ho hr ⊢
  clear hW2 h1 z1
  have hnew := hM.new D A c tx vars G cg got W2 (hkd.below h2 (Nat.le_refl _)) (hk.below h2) hD hl hv1 hv2 (ints_wide (hgot.below h2 (Nat.le_refl _)) h2.size) hgl hgw hmay
  have HV : Hid (∀ w', Below w.heap.size w w' → ∀ x : Int, 0 ≤ x → Calls Tryz.prog 39 #[.int .i64 x, .pointer (some ⟨g, 0, none⟩)] w' fun z w'' => z = .returned (.int .i64 (valL l x)) ∧ w'' = w') := fun w' hb x hx0 => jval_any g X l cx w.heap.size x hx0 w' ((hb.cell (p := ⟨g, 0, none⟩) hg).trans hc) (hx.below hb (Nat.le_refl _))
  have HL : Hid (∀ x : Int, 0 ≤ x → x < vars → wfI (valL l x)) := fun x x0 x1 => by
    unfold valL
    split
    · rename_i hlt
      have hk : x.toNat < l.length := by omega
      rw [List.getD_eq_getElem?_getD, List.getElem?_eq_getElem hk]
      exact hwf _ (List.getElem_mem hk)
    · simp [wfI, Lit.wf, IntKind.min, IntKind.max, IntKind.signed, IntKind.bits]; omega
  clear hkd hk hgot hmay hc hg hx hwf
  go_wp2_with fail
  refine hnew.mono ?_
  rintro e w3 ⟨q, S, rfl, hm, hS, hb3⟩
  have HR3 : Hid (R9 M w q S vars got (startI tx) (.slice none 0 0) 0 w3) := ⟨hm, fun b hb => by have := hS b hb; omega, ⟨[], World.ownsRow_nil _ _ _ _⟩, (fun r e => by cases e), (hb3.block _ (by omega)).trans hr, (hb3.block _ (by omega)).trans ho, h2.trans (hb3.mono h2.size)⟩
  have HRES := Lib.hid hres
  clear hm hS hb3 hnew h2 z2 ho hr hres
  go_wp2_with fail
  go_loopw [12] (fun i wr => ∃ (j f : Nat) (m : PM) (S : Nat → Prop) (v : Value) (n : Nat), j + f = 2001 ∧ i = .int .i64 j ∧ m.n ≤ j ∧ n ≤ j ∧ Hid (runI vars got (valL l) f m = some res) ∧ Hid (R9 M w q S vars got m v n wr)) (fun i _ => 2001 - (intOf i).toNat)
  case atStart => exact ⟨0, 2001, startI tx, S, _, 0, rfl, rfl, Nat.le_refl _, Nat.le_refl _, HRES, HR3⟩
  case round =>
    clear HR3 HRES
    obtain ⟨j, f, m, S, v, n, hjf, rfl, hmn, hnj, hr, hR⟩ := hrel
    have hmn9 : m.n ≤ 900 := Nat.le_trans (runI_n hr.out) hr9
    cases f with
    | zero => exact absurd hr.out (by simp [runI])
    | succ f =>
      have i1 : (j : Int) ≤ 2000 := by omega
      have hnext := hM.next hR.out.m (by omega)
      obtain ⟨nk, na, nx, hnx⟩ : ∃ nk na nx, nextI vars got m = (nk, na, nx) := ⟨_, _, _, rfl⟩
      rw [hnx] at hnext
      dsimp only at hnext
      have HNX := Lib.hid hnx
      clear hnx
      go_wp2_with fail
      refine hnext.mono ?_
      rintro e w4 ⟨rfl, ha⟩
      obtain ⟨S4, R4, _, _⟩ := hR.out.call ha
      have hbA := alloc_at w4 #[.int .u8 nk, .int .i64 na, .int .i64 nx] 25 rfl
      have nbA : ¬ S4 w4.heap.size := fun h => by have := hM.lt R4.m _ h; omega
      have hvb : ∀ r, v.ownBlock = some r → r < w4.heap.size := fun r e => by obtain ⟨_, hr⟩ := R4.row; exact (hr.lt r e).2
      have hbo : w.heap.size + 1 < w4.heap.size := (Array.getElem?_eq_some_iff.1 R4.out).1
      have R5 := R4.below hM ((Below.refl _ w4).alloc (Nat.le_refl _) (.cells #[.int .u8 nk, .int .i64 na, .int .i64 nx] 25))
      have HR5 := Lib.hid R5
      have HBA := Lib.hid (And.intro hbA nbA)
      clear R4 R5 hbA nbA ha hnext hR
      go_upto_region 9 with fail
      obtain ⟨bA, hbA⟩ : ∃ b, b = w4.heap.size := ⟨_, rfl⟩
      obtain ⟨W5, hW5⟩ : ∃ W, W = w4.alloc (.cells #[.int .u8 nk, .int .i64 na, .int .i64 nx] 25) := ⟨_, rfl⟩
      rw [← hW5] at HR5 HBA ⊢
      rw [← hbA] at HBA hvb hbo ⊢
      have HVB := Lib.hid hvb
      have HBO := Lib.hid hbo
      clear hW5 hbA hvb hbo
      obtain ⟨a0, a1, a2⟩ := ask_cells HBA.out.1
      by_cases k1 : nk = 1
      · have e1 : ((nk : Int) == 1) = true := by simp [k1]
        have hstep := hM.step HR5.out.m (by omega) (by rw [HNX.out]; exact k1)
        have HRN := Lib.hid (runI_inner hr.out (by rw [HNX.out]; exact k1))
        have hn2 := stepI_n vars got m
        clear k1 hr
        go_wp2_with fail
        refine hstep.mono ?_
        rintro e w6 ⟨rfl, ha⟩
        obtain ⟨S6, R6, _, _⟩ := HR5.out.call ha
        have HR6 := Lib.hid R6
        have hn3 : (stepI vars got m).n ≤ j + 1 := by omega
        clear ha R6 hstep hn2
        go_wp2_with fail
        go_roundw
        case rel => exact ⟨j + 1, f, _, S6, v, n, by omega, by go_num, hn3, by omega, HRN, HR6⟩
        case measure => simp [intOf]; omega
      · have e1 : ((nk : Int) == 1) = false := beq_eq_false_iff_ne.2 (by omega)
        by_cases k2 : nk = 2
        · have e2 : ((nk : Int) == 2) = true := by simp [k2]
          obtain ⟨q1, q2, q3, q4⟩ := runI_asks hr.out (by rw [HNX.out]; exact k2)
          rw [HNX.out] at q1 q2 q3 q4
          dsimp only at q1 q2 q3 q4
          have hans := fun (W : World) (S : Nat → Prop) (hW : M W q S vars got m) (x : Int) (hx : wfI x) => hM.answer hW (by omega) (by rw [HNX.out]; exact k2) x hx
          have HAN := Lib.hid hans
          have hwr := hM.writes HR5.out.m (by omega)
          have hn2 := answerI_n (valL l na) m
          have HQ := Lib.hid (And.intro q1 q4)
          clear k1 k2 hr q1 q4 hans
          go_wp2_with fail
          refine hwr.mono ?_
          rintro e w6 ⟨B, d, S6, rfl, hm6, hs6, hf6, hp6, hln6, hfar6⟩
          have HR6 := Lib.hid (HR5.out.fro hm6 hs6 hf6)
          have HBA6 := Lib.hid (far9 HBA.out.1 HBA.out.2 hs6 hf6)
          obtain ⟨a0, a1, a2⟩ := ask_cells HBA6.out.1
          obtain ⟨L, hL⟩ : ∃ L, L = allS m.w := ⟨_, rfl⟩
          rw [← hL] at hp6 hln6 hfar6 HQ ⊢
          have HP6 := Lib.hid hp6
          clear hwr hm6 hs6 hf6 hp6 hfar6 hL HR5 HBA
          go_wp2_with fail
          go_loopw [15] (fun i wr => ∃ t : Nat, t ≤ L.length ∧ i = .int .i64 t ∧ Hid (R9 M w q S6 vars got m v n wr) ∧ Hid (wr.heap[bA]? = some (.cells #[.int .u8 nk, .int .i64 na, .int .i64 nx] 25 (0, 0))) ∧ Hid (PairsAt wr wr.heap.size B L)) (fun i _ => L.length - (intOf i).toNat)
          case atStart => exact ⟨0, Nat.zero_le _, rfl, HR6, HBA6.out.1, HP6⟩
          case round =>
            clear a0 a1 a2
            obtain ⟨t, ht, rfl, hR, hA, hp⟩ := hrel
            obtain ⟨a0, a1, a2⟩ := ask_cells hA.out
            by_cases hlt : t < L.length
            · obtain ⟨p, rfl, mb, x1, x2⟩ := hp.out t hlt
              have hne : (L[t].1 == na) = false := beq_eq_false_iff_ne.2 (HQ.out.1 _ (List.getElem_mem hlt))
              obtain ⟨u1, hu1⟩ : ∃ u, u = L[t].1 := ⟨_, rfl⟩
              rw [← hu1] at x1 hne
              have t1 : (0 : Int) ≤ (t : Int) := by omega
              have t2 : (t : Int) < (L.length : Int) := by omega
              have t3 : (t : Int) ≤ 5000 := by omega
              clear x2 hu1
              go_wp2_with fail
              go_quiet (fail)
              go_wp2_with fail
              have hb := drewN_below8 wr nq
              have HR7 := Lib.hid (hR.out.below hM hb)
              have HA7 : Hid ((wr.drewN nq).heap[bA]? = some (.cells #[.int .u8 nk, .int .i64 na, .int .i64 nx] 25 (0, 0))) := hA.out
              have HP7 := Lib.hid (hp.out.below hb (Nat.le_refl _))
              clear hb
              go_roundw
              case rel => exact ⟨t + 1, by omega, by go_num, HR7, HA7, HP7⟩
              case measure => simp [intOf]; omega
            · obtain rfl : t = L.length := by omega
              have t2 : ¬ ((L.length : Int) < (L.length : Int)) := by omega
              obtain ⟨xs, hrow⟩ := hR.out.row
              have hzR := (Array.getElem?_eq_some_iff.1 hR.out.out).1
              have hco : ∀ o, (wr.alloc o).cell? ⟨w.heap.size + 1, 13, none⟩ = some v := fun o => by
                have := (Below.heap_alloc wr o _ hzR).trans hR.out.out
                simp [World.cell?, this]
              have hco0 : wr.cell? ⟨w.heap.size + 1, 13, none⟩ = some v := by
                have := hR.out.out
                simp [World.cell?, this]
              have HROW := Lib.hid hrow
              clear hrow hp
              go_upto_region 23 with (first
                | (at_builtin; refine list_int rfl (.tmp 73) (.tmp 76) rfl rfl HROW.out (by omega) na rfl (by have := hR.out.low.size; omega) ?_; intro gg cap w8 hown8 hg8 hat8 hgl8; have h8 := (hg8.block (w.heap.size + 1) (by simp; omega) (fun e => by have := (HROW.out.lt _ e.symm).1; omega)).trans ((Below.heap_alloc wr _ _ hzR).trans hR.out.out); have c8 : w8.cell? ⟨w.heap.size + 1, 13, none⟩ = some v := (by simp [World.cell?, h8]); have f8 : w8.frozen? ⟨w.heap.size + 1, 13, none⟩ = false := (by simp [World.frozen?, h8]))
                | fail)
              have hsx := hR.out.append hM rfl hown8 hg8 hat8
              obtain ⟨W9, hW9⟩ : ∃ W, W = w8.setCell ⟨w.heap.size + 1, 13, none⟩ (.slice (some ⟨gg, 0, none⟩) (n + 1) cap) := ⟨_, rfl⟩
              rw [← hW9] at hsx ⊢
              obtain ⟨hR9, hk9⟩ := hsx
              have hA9 := (hk9 bA (Array.getElem?_eq_some_iff.1 hA.out).1 (by have := HBO.out; omega) (fun e => by have := HVB.out _ e; omega)).trans hA.out
              obtain ⟨a0, a1, a2⟩ := ask_cells hA9
              have g1 : ¬ na < 0 := by omega
              have g2 : ¬ vars ≤ na := by omega
              have hval := HV.out W9 hR9.low na q2
              have hans := HAN.out W9 S6 hR9.m (valL l na) (HL.out na q2 q3)
              have HR9 := Lib.hid hR9
              clear hW9 hk9 hA9 hown8 hg8 hat8 hgl8 h8 c8 f8 hR9 hco hco0 hzR HROW hR
              go_wp2_with fail
              refine hval.mono ?_
              rintro e w10 ⟨rfl, rfl⟩
              go_wp2_with fail
              refine hans.mono ?_
              rintro e w11 ⟨rfl, ha⟩
              obtain ⟨S11, R11, _, _⟩ := HR9.out.call ha
              have HR11 := Lib.hid R11
              have HQ4 := Lib.hid HQ.out.2
              clear ha R11 hans hval HR9
              go_wp2_with fail
              go_roundw
              case rel => exact ⟨j + 1, f, _, S11, _, n + 1, by omega, by go_num, by omega, by omega, HQ4, HR11⟩
              case measure => simp [intOf]; omega
        · have e2 : ((nk : Int) == 2) = false := beq_eq_false_iff_ne.2 (by omega)
          have hend := runI_ends hr.out (by rw [HNX.out]; exact k1) (by rw [HNX.out]; exact k2)
          obtain ⟨VA, vn, vc, rfl⟩ : ∃ A n c, v = .slice A n c := by
            obtain ⟨_, hrow⟩ := HR5.out.row
            rcases hrow.2 with ⟨rfl, _⟩ | ⟨g, cap, cur, rfl, _⟩ <;> exact ⟨_, _, _, rfl⟩
          have hlen := hM.len HR5.out.m
          obtain ⟨l0, l1, l2, l3, l4, l5, l6, l7, hml⟩ : ∃ l0 l1 l2 l3 l4 l5 l6 l7, m.l = [l0, l1, l2, l3, l4, l5, l6, l7] := by
            match hmm : m.l, hlen with
            | [l0, l1, l2, l3, l4, l5, l6, l7], _ => exact ⟨l0, l1, l2, l3, l4, l5, l6, l7, rfl⟩
          have hloc : Hid (∀ (W : World) (S : Nat → Prop), M W q S vars got m → Calls Tryz.prog 11 #[.pointer (some ⟨q, 0, none⟩)] W fun e w' => e = .returned (.agg #[.int .i64 l0, .int .i64 l1, .int .i64 l2, .int .i64 l3, .int .i64 l4, .int .i64 l5, .int .i64 l6, .int .i64 l7]) ∧ After9 M W q S vars got m w') := fun W S hW => by
            have := hM.locals hW
            rw [hml] at this
            exact this
          have HEND : Hid (res = ⟨nk, na, nx, allS m.w, [l0, l1, l2, l3, l4, l5, l6, l7], m.n⟩) := by
            show _ = _
            rw [hend, HNX.out, hml]
          have HRD := Lib.hid (HR5.out.below hM ((Below.refl _ W5).drew))
          have HAD : Hid (W5.drew.heap[bA]? = some (.cells #[.int .u8 nk, .int .i64 na, .int .i64 nx] 25 (0, 0)) ∧ ¬ S4 bA) := HBA.out
          have TC : Hid (∀ w' : World, w'.heap[w.heap.size + 1]? = some (.cells #[.int .u8 0, .int .i64 0, .int .i64 0, .slice none 0 0, .int .i64 0, .int .i64 0, .int .i64 0, .int .i64 0, .int .i64 0, .int .i64 0, .int .i64 0, .int .i64 0, .int .i64 0, .slice VA vn vc, .bool false] 48 (0, 0)) → (w'.cell? ⟨w.heap.size + 1, 0, none⟩ = some (.int .u8 0) ∧ w'.cell? ⟨w.heap.size + 1, 1, none⟩ = some (.int .i64 0) ∧ w'.cell? ⟨w.heap.size + 1, 2, none⟩ = some (.int .i64 0) ∧ w'.cell? ⟨w.heap.size + 1, 3, none⟩ = some (.slice none 0 0) ∧ w'.cell? ⟨w.heap.size + 1, 4, none⟩ = some (.int .i64 0) ∧ w'.cell? ⟨w.heap.size + 1, 5, none⟩ = some (.int .i64 0) ∧ w'.cell? ⟨w.heap.size + 1, 6, none⟩ = some (.int .i64 0) ∧ w'.cell? ⟨w.heap.size + 1, 7, none⟩ = some (.int .i64 0) ∧ w'.cell? ⟨w.heap.size + 1, 8, none⟩ = some (.int .i64 0) ∧ w'.cell? ⟨w.heap.size + 1, 9, none⟩ = some (.int .i64 0) ∧ w'.cell? ⟨w.heap.size + 1, 10, none⟩ = some (.int .i64 0) ∧ w'.cell? ⟨w.heap.size + 1, 11, none⟩ = some (.int .i64 0) ∧ w'.cell? ⟨w.heap.size + 1, 12, none⟩ = some (.int .i64 0) ∧ w'.cell? ⟨w.heap.size + 1, 13, none⟩ = some (.slice VA vn vc) ∧ w'.cell? ⟨w.heap.size + 1, 14, none⟩ = some (.bool false)) ∧ (w'.frozen? ⟨w.heap.size + 1, 0, none⟩ = false ∧ w'.frozen? ⟨w.heap.size + 1, 1, none⟩ = false ∧ w'.frozen? ⟨w.heap.size + 1, 2, none⟩ = false ∧ w'.frozen? ⟨w.heap.size + 1, 3, none⟩ = false ∧ w'.frozen? ⟨w.heap.size + 1, 4, none⟩ = false ∧ w'.frozen? ⟨w.heap.size + 1, 5, none⟩ = false ∧ w'.frozen? ⟨w.heap.size + 1, 6, none⟩ = false ∧ w'.frozen? ⟨w.heap.size + 1, 7, none⟩ = false ∧ w'.frozen? ⟨w.heap.size + 1, 8, none⟩ = false ∧ w'.frozen? ⟨w.heap.size + 1, 9, none⟩ = false ∧ w'.frozen? ⟨w.heap.size + 1, 10, none⟩ = false ∧ w'.frozen? ⟨w.heap.size + 1, 11, none⟩ = false ∧ w'.frozen? ⟨w.heap.size + 1, 12, none⟩ = false ∧ w'.frozen? ⟨w.heap.size + 1, 13, none⟩ = false ∧ w'.frozen? ⟨w.heap.size + 1, 14, none⟩ = false)) := fun w' hr => by
            have hc : ∀ i, w'.cell? ⟨w.heap.size + 1, i, none⟩ = (#[.int .u8 0, .int .i64 0, .int .i64 0, .slice none 0 0, .int .i64 0, .int .i64 0, .int .i64 0, .int .i64 0, .int .i64 0, .int .i64 0, .int .i64 0, .int .i64 0, .int .i64 0, .slice VA vn vc, .bool false] : Array Value)[i]? := fun i => by simp [World.cell?, hr]
            have fz : ∀ i, w'.frozen? ⟨w.heap.size + 1, i, none⟩ = false := fun i => by simp [World.frozen?, hr]
            exact ⟨⟨hc 0, hc 1, hc 2, hc 3, hc 4, hc 5, hc 6, hc 7, hc 8, hc 9, hc 10, hc 11, hc 12, hc 13, hc 14⟩, ⟨fz 0, fz 1, fz 2, fz 3, fz 4, fz 5, fz 6, fz 7, fz 8, fz 9, fz 10, fz 11, fz 12, fz 13, fz 14⟩⟩
          obtain ⟨L, hL⟩ : ∃ L, L = allS m.w := ⟨_, rfl⟩
          have hwr : Hid (∀ (W : World) (S : Nat → Prop), M W q S vars got m → Calls Tryz.prog 8 #[.pointer (some ⟨q, 0, none⟩)] W fun e w' => ∃ B d S', e = .returned (.slice B L.length d) ∧ M w' q S' vars got m ∧ (∀ b, S' b → S b ∨ W.heap.size ≤ b) ∧ Fro S W w' ∧ PairsAt w' w'.heap.size B L ∧ L.length ≤ 5000 ∧ (L ≠ [] → ∀ p, B = some p → W.heap.size ≤ p.block ∧ ¬ S' p.block)) := fun W S hW => by rw [hL]; exact hM.writes hW (by omega)
          rw [← hL] at HEND
          have hst : Hid (∀ (W : World) (S : Nat → Prop), M W q S vars got m → Calls Tryz.prog 9 #[.pointer (some ⟨q, 0, none⟩)] W fun e w' => e = .returned (.int .i64 m.n) ∧ After9 M W q S vars got m w') := fun W S hW => hM.steps hW (by omega)
          clear hend hml hL hlen k1 k2 hr HR5 HBA
          go_upto_region 10 with fail
          go_cut [40] (fun xv wx => ∃ (B : Option Addr) (d : Nat) (w8 : World) (S8 : Nat → Prop), Hid (R9 M w q S8 vars got m (.slice VA vn vc) n w8) ∧ Hid (PairsAt w8 w8.heap.size B L) ∧ Hid (L ≠ [] → ∀ p, B = some p → p.block ≠ w.heap.size + 1 ∧ p.block ≠ w.heap.size) ∧ wx = ((((((((((((((w8.setCell ⟨w.heap.size + 1, 0, none⟩ (.int .u8 nk)).setCell ⟨w.heap.size + 1, 1, none⟩ (.int .i64 na)).setCell ⟨w.heap.size + 1, 2, none⟩ (.int .i64 nx)).setCell ⟨w.heap.size + 1, 3, none⟩ (.slice B L.length d)).setCell ⟨w.heap.size + 1, 4, none⟩ (.int .i64 l0)).setCell ⟨w.heap.size + 1, 5, none⟩ (.int .i64 l1)).setCell ⟨w.heap.size + 1, 6, none⟩ (.int .i64 l2)).setCell ⟨w.heap.size + 1, 7, none⟩ (.int .i64 l3)).setCell ⟨w.heap.size + 1, 8, none⟩ (.int .i64 l4)).setCell ⟨w.heap.size + 1, 9, none⟩ (.int .i64 l5)).setCell ⟨w.heap.size + 1, 10, none⟩ (.int .i64 l6)).setCell ⟨w.heap.size + 1, 11, none⟩ (.int .i64 l7)).setCell ⟨w.heap.size + 1, 12, none⟩ (.int .i64 m.n)).setCell ⟨w.heap.size + 1, 14, none⟩ (.bool true)))
          case first =>
            go_region_law
              (first
                | (rw [if_pos (by rfl)]; go_simp; go_at_call 9; refine (hst.out _ _ R7.m).mono ?_; rintro e w8 ⟨rfl, ha8⟩; obtain ⟨S8, R8, hs8, hf8⟩ := R7.call ha8; have A8 := far9 A7.1 A7.2 hs8 hf8; obtain ⟨a80, a81, a82⟩ := ask_cells A8.1; have P8 := pairs_stay9 P7 hf8.size (fun he p e => hf8.block _ (F7 he p e).1 (F7 he p e).2); obtain ⟨⟨c0, c1, c2, c3, c4, c5, c6, c7, c8, c9, c10, c11, c12, c13, c14⟩, ⟨z0, z1, z2, z3, z4, z5, z6, z7, z8, z9, z10, z11, z12, z13, z14⟩⟩ := TC.out w8 R8.out)
                | (rw [if_pos (by rfl)]; go_simp; go_at_call 11; refine (hloc.out _ _ R6.m).mono ?_; rintro e w7 ⟨rfl, ha7⟩; obtain ⟨S7, R7, hs7, hf7⟩ := R6.call ha7; have A7 := far9 A6.1 A6.2 hs7 hf7; obtain ⟨a70, a71, a72⟩ := ask_cells A7.1; have P7 := pairs_stay9 hp6 hf7.size (fun he p e => hf7.block _ (F6 he p e).1 (F6 he p e).2); have F7 : L ≠ [] → ∀ p, B = some p → p.block < w7.heap.size ∧ ¬ S7 p.block := fun he p e => ⟨Nat.lt_of_lt_of_le (F6 he p e).1 hf7.size, fun h => by rcases hs7 _ h with h | h; exact (F6 he p e).2 h; have := (F6 he p e).1; omega⟩)
                | (rw [if_pos (by rfl)]; go_simp; go_at_call 8; refine (hwr.out _ _ HRD.out.m).mono ?_; rintro e w6 ⟨B, d, S6, rfl, hm6, hs6, hf6, hp6, hln6, hfar6⟩; have R6 := HRD.out.fro hm6 hs6 hf6; have A6 := far9 HAD.out.1 HAD.out.2 hs6 hf6; obtain ⟨a60, a61, a62⟩ := ask_cells A6.1; have F6 : L ≠ [] → ∀ p, B = some p → p.block < w6.heap.size ∧ ¬ S6 p.block := fun he p e => ⟨pairs_lt9 hp6 he e, (hfar6 he p e).2⟩))
            all_goals
              have hPo : L ≠ [] → ∀ p, B = some p → p.block ≠ w.heap.size + 1 ∧ p.block ≠ w.heap.size := fun he p e => by
                have h1 := (hfar6 he p e).1
                have h2 : w.heap.size + 1 < W5.drew.heap.size := (Array.getElem?_eq_some_iff.1 HRD.out.out).1
                omega
              have HZZ : Hid (R9 M w q S8 vars got m (.slice VA vn vc) n w8 ∧ PairsAt w8 w8.heap.size B L ∧ (L ≠ [] → ∀ p, B = some p → p.block ≠ w.heap.size + 1 ∧ p.block ≠ w.heap.size)) := ⟨R8, P8, hPo⟩
              clear R8 P8 hPo P7 hp6 F6 F7 hfar6 R6 R7 A6 A7 A8 hs6 hs7 hs8 hf6 hf7 hf8 ha7 ha8 hm6 hln6
              go_wp2_with fail
              go_meet
              case rel => exact ⟨B, d, w8, S8, HZZ.out.1, HZZ.out.2.1, HZZ.out.2.2, rfl⟩
          case rest =>
            obtain ⟨B, d, w8, S8, hR8, hP8, hPo, rfl⟩ := hcut
            have R8 := hR8.out
            have P8 := hP8.out
            have hPo := hPo.out
            have hZ := (Array.getElem?_eq_some_iff.1 R8.out).1
            have h14 := set14 R8.out (.int .u8 nk) (.int .i64 na) (.int .i64 nx) (.slice B L.length d) (.int .i64 l0) (.int .i64 l1) (.int .i64 l2) (.int .i64 l3) (.int .i64 l4) (.int .i64 l5) (.int .i64 l6) (.int .i64 l7) (.int .i64 m.n) (.bool true)
            have h14f := (set14_far (w2 := w8) (g := w.heap.size + 1) (b := w.heap.size) (by omega) (.int .u8 nk) (.int .i64 na) (.int .i64 nx) (.slice B L.length d) (.int .i64 l0) (.int .i64 l1) (.int .i64 l2) (.int .i64 l3) (.int .i64 l4) (.int .i64 l5) (.int .i64 l6) (.int .i64 l7) (.int .i64 m.n) (.bool true)).trans R8.res
            have h14l := set14_low (B := w.heap.size) (g := w.heap.size + 1) R8.low (by omega) (.int .u8 nk) (.int .i64 na) (.int .i64 nx) (.slice B L.length d) (.int .i64 l0) (.int .i64 l1) (.int .i64 l2) (.int .i64 l3) (.int .i64 l4) (.int .i64 l5) (.int .i64 l6) (.int .i64 l7) (.int .i64 m.n) (.bool true)
            have h14p : ∀ b, b ≠ w.heap.size + 1 → ((((((((((((((w8.setCell ⟨w.heap.size + 1, 0, none⟩ (.int .u8 nk)).setCell ⟨w.heap.size + 1, 1, none⟩ (.int .i64 na)).setCell ⟨w.heap.size + 1, 2, none⟩ (.int .i64 nx)).setCell ⟨w.heap.size + 1, 3, none⟩ (.slice B L.length d)).setCell ⟨w.heap.size + 1, 4, none⟩ (.int .i64 l0)).setCell ⟨w.heap.size + 1, 5, none⟩ (.int .i64 l1)).setCell ⟨w.heap.size + 1, 6, none⟩ (.int .i64 l2)).setCell ⟨w.heap.size + 1, 7, none⟩ (.int .i64 l3)).setCell ⟨w.heap.size + 1, 8, none⟩ (.int .i64 l4)).setCell ⟨w.heap.size + 1, 9, none⟩ (.int .i64 l5)).setCell ⟨w.heap.size + 1, 10, none⟩ (.int .i64 l6)).setCell ⟨w.heap.size + 1, 11, none⟩ (.int .i64 l7)).setCell ⟨w.heap.size + 1, 12, none⟩ (.int .i64 m.n)).setCell ⟨w.heap.size + 1, 14, none⟩ (.bool true)).heap[b]? = w8.heap[b]? := fun b hb => set14_far hb (.int .u8 nk) (.int .i64 na) (.int .i64 nx) (.slice B L.length d) (.int .i64 l0) (.int .i64 l1) (.int .i64 l2) (.int .i64 l3) (.int .i64 l4) (.int .i64 l5) (.int .i64 l6) (.int .i64 l7) (.int .i64 m.n) (.bool true)
            have h14z : ((((((((((((((w8.setCell ⟨w.heap.size + 1, 0, none⟩ (.int .u8 nk)).setCell ⟨w.heap.size + 1, 1, none⟩ (.int .i64 na)).setCell ⟨w.heap.size + 1, 2, none⟩ (.int .i64 nx)).setCell ⟨w.heap.size + 1, 3, none⟩ (.slice B L.length d)).setCell ⟨w.heap.size + 1, 4, none⟩ (.int .i64 l0)).setCell ⟨w.heap.size + 1, 5, none⟩ (.int .i64 l1)).setCell ⟨w.heap.size + 1, 6, none⟩ (.int .i64 l2)).setCell ⟨w.heap.size + 1, 7, none⟩ (.int .i64 l3)).setCell ⟨w.heap.size + 1, 8, none⟩ (.int .i64 l4)).setCell ⟨w.heap.size + 1, 9, none⟩ (.int .i64 l5)).setCell ⟨w.heap.size + 1, 10, none⟩ (.int .i64 l6)).setCell ⟨w.heap.size + 1, 11, none⟩ (.int .i64 l7)).setCell ⟨w.heap.size + 1, 12, none⟩ (.int .i64 m.n)).setCell ⟨w.heap.size + 1, 14, none⟩ (.bool true)).heap.size = w8.heap.size := by simp [World.setCell]
            obtain ⟨W9, hW9⟩ : ∃ W, W = ((((((((((((((w8.setCell ⟨w.heap.size + 1, 0, none⟩ (.int .u8 nk)).setCell ⟨w.heap.size + 1, 1, none⟩ (.int .i64 na)).setCell ⟨w.heap.size + 1, 2, none⟩ (.int .i64 nx)).setCell ⟨w.heap.size + 1, 3, none⟩ (.slice B L.length d)).setCell ⟨w.heap.size + 1, 4, none⟩ (.int .i64 l0)).setCell ⟨w.heap.size + 1, 5, none⟩ (.int .i64 l1)).setCell ⟨w.heap.size + 1, 6, none⟩ (.int .i64 l2)).setCell ⟨w.heap.size + 1, 7, none⟩ (.int .i64 l3)).setCell ⟨w.heap.size + 1, 8, none⟩ (.int .i64 l4)).setCell ⟨w.heap.size + 1, 9, none⟩ (.int .i64 l5)).setCell ⟨w.heap.size + 1, 10, none⟩ (.int .i64 l6)).setCell ⟨w.heap.size + 1, 11, none⟩ (.int .i64 l7)).setCell ⟨w.heap.size + 1, 12, none⟩ (.int .i64 m.n)).setCell ⟨w.heap.size + 1, 14, none⟩ (.bool true)) := ⟨_, rfl⟩
            rw [← hW9] at h14 h14f h14l h14p h14z ⊢
            have P9 := pairs_stay9 P8 (by rw [h14z]; exact Nat.le_refl _) (fun he p e => h14p _ (hPo he p e).1)
            have hd : ∀ i, W9.cell? ⟨w.heap.size + 1, i, none⟩ = (#[.int .u8 nk, .int .i64 na, .int .i64 nx, .slice B L.length d, .int .i64 l0, .int .i64 l1, .int .i64 l2, .int .i64 l3, .int .i64 l4, .int .i64 l5, .int .i64 l6, .int .i64 l7, .int .i64 m.n, .slice VA vn vc, .bool true] : Array Value)[i]? := fun i => by simp [World.cell?, h14]
            have d0 := hd 0
            have d1 := hd 1
            have d2 := hd 2
            have d3 := hd 3
            have d4 := hd 4
            have d5 := hd 5
            have d6 := hd 6
            have d7 := hd 7
            have d8 := hd 8
            have d9 := hd 9
            have d10 := hd 10
            have d11 := hd 11
            have d12 := hd 12
            have d13 := hd 13
            have d14 := hd 14
            simp only [List.getElem?_toArray, List.getElem?_cons_zero, List.getElem?_cons_succ] at d0 d1 d2 d3 d4 d5 d6 d7 d8 d9 d10 d11 d12 d13 d14
            have hcz : ∀ i, W9.cell? ⟨w.heap.size, i, none⟩ = (#[.int .u8 0, .int .i64 0, .int .i64 0, .slice none 0 0, .int .i64 0, .int .i64 0, .int .i64 0, .int .i64 0, .int .i64 0, .int .i64 0, .int .i64 0, .int .i64 0, .int .i64 0, .slice none 0 0, .bool false] : Array Value)[i]? := fun i => by simp [World.cell?, h14f]
            have fz : ∀ i, W9.frozen? ⟨w.heap.size, i, none⟩ = false := fun i => by simp [World.frozen?, h14f]
            have e0 := hcz 0
            have y0 := fz 0
            have e1 := hcz 1
            have y1 := fz 1
            have e2 := hcz 2
            have y2 := fz 2
            have e3 := hcz 3
            have y3 := fz 3
            have e4 := hcz 4
            have y4 := fz 4
            have e5 := hcz 5
            have y5 := fz 5
            have e6 := hcz 6
            have y6 := fz 6
            have e7 := hcz 7
            have y7 := fz 7
            have e8 := hcz 8
            have y8 := fz 8
            have e9 := hcz 9
            have y9 := fz 9
            have e10 := hcz 10
            have y10 := fz 10
            have e11 := hcz 11
            have y11 := fz 11
            have e12 := hcz 12
            have y12 := fz 12
            have e13 := hcz 13
            have y13 := fz 13
            have e14 := hcz 14
            have y14 := fz 14
            simp only [List.getElem?_toArray, List.getElem?_cons_zero, List.getElem?_cons_succ] at e0 e1 e2 e3 e4 e5 e6 e7 e8 e9 e10 e11 e12 e13 e14
            have h15 := set15 h14f (.int .u8 nk) (.int .i64 na) (.int .i64 nx) (.slice B L.length d) (.int .i64 l0) (.int .i64 l1) (.int .i64 l2) (.int .i64 l3) (.int .i64 l4) (.int .i64 l5) (.int .i64 l6) (.int .i64 l7) (.int .i64 m.n) (.slice VA vn vc) (.bool true)
            have hr := fun i => cell_of_row _ w.heap.size i _ _ (0, 0) h15
            have HFIN := Lib.hid hr
            have h15l := set15_low (B := w.heap.size) (g := w.heap.size) h14l (Nat.le_refl _) (.int .u8 nk) (.int .i64 na) (.int .i64 nx) (.slice B L.length d) (.int .i64 l0) (.int .i64 l1) (.int .i64 l2) (.int .i64 l3) (.int .i64 l4) (.int .i64 l5) (.int .i64 l6) (.int .i64 l7) (.int .i64 m.n) (.slice VA vn vc) (.bool true)
            have h15p : ∀ b, b ≠ w.heap.size → (((((((((((((((W9.setCell ⟨w.heap.size, 0, none⟩ (.int .u8 nk)).setCell ⟨w.heap.size, 1, none⟩ (.int .i64 na)).setCell ⟨w.heap.size, 2, none⟩ (.int .i64 nx)).setCell ⟨w.heap.size, 3, none⟩ (.slice B L.length d)).setCell ⟨w.heap.size, 4, none⟩ (.int .i64 l0)).setCell ⟨w.heap.size, 5, none⟩ (.int .i64 l1)).setCell ⟨w.heap.size, 6, none⟩ (.int .i64 l2)).setCell ⟨w.heap.size, 7, none⟩ (.int .i64 l3)).setCell ⟨w.heap.size, 8, none⟩ (.int .i64 l4)).setCell ⟨w.heap.size, 9, none⟩ (.int .i64 l5)).setCell ⟨w.heap.size, 10, none⟩ (.int .i64 l6)).setCell ⟨w.heap.size, 11, none⟩ (.int .i64 l7)).setCell ⟨w.heap.size, 12, none⟩ (.int .i64 m.n)).setCell ⟨w.heap.size, 13, none⟩ (.slice VA vn vc)).setCell ⟨w.heap.size, 14, none⟩ (.bool true)).heap[b]? = W9.heap[b]? := fun b hb => set15_far hb (.int .u8 nk) (.int .i64 na) (.int .i64 nx) (.slice B L.length d) (.int .i64 l0) (.int .i64 l1) (.int .i64 l2) (.int .i64 l3) (.int .i64 l4) (.int .i64 l5) (.int .i64 l6) (.int .i64 l7) (.int .i64 m.n) (.slice VA vn vc) (.bool true)
            have h15z : (((((((((((((((W9.setCell ⟨w.heap.size, 0, none⟩ (.int .u8 nk)).setCell ⟨w.heap.size, 1, none⟩ (.int .i64 na)).setCell ⟨w.heap.size, 2, none⟩ (.int .i64 nx)).setCell ⟨w.heap.size, 3, none⟩ (.slice B L.length d)).setCell ⟨w.heap.size, 4, none⟩ (.int .i64 l0)).setCell ⟨w.heap.size, 5, none⟩ (.int .i64 l1)).setCell ⟨w.heap.size, 6, none⟩ (.int .i64 l2)).setCell ⟨w.heap.size, 7, none⟩ (.int .i64 l3)).setCell ⟨w.heap.size, 8, none⟩ (.int .i64 l4)).setCell ⟨w.heap.size, 9, none⟩ (.int .i64 l5)).setCell ⟨w.heap.size, 10, none⟩ (.int .i64 l6)).setCell ⟨w.heap.size, 11, none⟩ (.int .i64 l7)).setCell ⟨w.heap.size, 12, none⟩ (.int .i64 m.n)).setCell ⟨w.heap.size, 13, none⟩ (.slice VA vn vc)).setCell ⟨w.heap.size, 14, none⟩ (.bool true)).heap.size = W9.heap.size := by simp [World.setCell]
            have P15 := pairs_stay9 P9 (by rw [h15z]; exact Nat.le_refl _) (fun he p e => h15p _ (hPo he p e).2)
            have HFP : Hid (PairsAt (((((((((((((((W9.setCell ⟨w.heap.size, 0, none⟩ (.int .u8 nk)).setCell ⟨w.heap.size, 1, none⟩ (.int .i64 na)).setCell ⟨w.heap.size, 2, none⟩ (.int .i64 nx)).setCell ⟨w.heap.size, 3, none⟩ (.slice B L.length d)).setCell ⟨w.heap.size, 4, none⟩ (.int .i64 l0)).setCell ⟨w.heap.size, 5, none⟩ (.int .i64 l1)).setCell ⟨w.heap.size, 6, none⟩ (.int .i64 l2)).setCell ⟨w.heap.size, 7, none⟩ (.int .i64 l3)).setCell ⟨w.heap.size, 8, none⟩ (.int .i64 l4)).setCell ⟨w.heap.size, 9, none⟩ (.int .i64 l5)).setCell ⟨w.heap.size, 10, none⟩ (.int .i64 l6)).setCell ⟨w.heap.size, 11, none⟩ (.int .i64 l7)).setCell ⟨w.heap.size, 12, none⟩ (.int .i64 m.n)).setCell ⟨w.heap.size, 13, none⟩ (.slice VA vn vc)).setCell ⟨w.heap.size, 14, none⟩ (.bool true)) (((((((((((((((W9.setCell ⟨w.heap.size, 0, none⟩ (.int .u8 nk)).setCell ⟨w.heap.size, 1, none⟩ (.int .i64 na)).setCell ⟨w.heap.size, 2, none⟩ (.int .i64 nx)).setCell ⟨w.heap.size, 3, none⟩ (.slice B L.length d)).setCell ⟨w.heap.size, 4, none⟩ (.int .i64 l0)).setCell ⟨w.heap.size, 5, none⟩ (.int .i64 l1)).setCell ⟨w.heap.size, 6, none⟩ (.int .i64 l2)).setCell ⟨w.heap.size, 7, none⟩ (.int .i64 l3)).setCell ⟨w.heap.size, 8, none⟩ (.int .i64 l4)).setCell ⟨w.heap.size, 9, none⟩ (.int .i64 l5)).setCell ⟨w.heap.size, 10, none⟩ (.int .i64 l6)).setCell ⟨w.heap.size, 11, none⟩ (.int .i64 l7)).setCell ⟨w.heap.size, 12, none⟩ (.int .i64 m.n)).setCell ⟨w.heap.size, 13, none⟩ (.slice VA vn vc)).setCell ⟨w.heap.size, 14, none⟩ (.bool true)).heap.size B L ∧ Below w.heap.size w (((((((((((((((W9.setCell ⟨w.heap.size, 0, none⟩ (.int .u8 nk)).setCell ⟨w.heap.size, 1, none⟩ (.int .i64 na)).setCell ⟨w.heap.size, 2, none⟩ (.int .i64 nx)).setCell ⟨w.heap.size, 3, none⟩ (.slice B L.length d)).setCell ⟨w.heap.size, 4, none⟩ (.int .i64 l0)).setCell ⟨w.heap.size, 5, none⟩ (.int .i64 l1)).setCell ⟨w.heap.size, 6, none⟩ (.int .i64 l2)).setCell ⟨w.heap.size, 7, none⟩ (.int .i64 l3)).setCell ⟨w.heap.size, 8, none⟩ (.int .i64 l4)).setCell ⟨w.heap.size, 9, none⟩ (.int .i64 l5)).setCell ⟨w.heap.size, 10, none⟩ (.int .i64 l6)).setCell ⟨w.heap.size, 11, none⟩ (.int .i64 l7)).setCell ⟨w.heap.size, 12, none⟩ (.int .i64 m.n)).setCell ⟨w.heap.size, 13, none⟩ (.slice VA vn vc)).setCell ⟨w.heap.size, 14, none⟩ (.bool true))) := ⟨P15, h15l⟩
            clear hW9 h14 h14f h14l h14p h14z P9 hd hcz h15 hr h15l h15p h15z P15 hPo hZ P8 R8 hR8 hP8
            go_wp2_with fail
            have hE := HEND.out
            subst hE
            clear d0 e0 y0 d1 e1 y1 d2 e2 y2 d3 e3 y3 d4 e4 y4 d5 e5 y5 d6 e6 y6 d7 e7 y7 d8 e8 y8 d9 e9 y9 d10 e10 y10 d11 e11 y11 d12 e12 y12 d13 e13 y13 d14 e14 y14
            have q0 := HFIN.out 0
            have q1 := HFIN.out 1
            have q2 := HFIN.out 2
            have q3 := HFIN.out 3
            have q4 := HFIN.out 4
            have q5 := HFIN.out 5
            have q6 := HFIN.out 6
            have q7 := HFIN.out 7
            have q8 := HFIN.out 8
            have q9 := HFIN.out 9
            have q10 := HFIN.out 10
            have q11 := HFIN.out 11
            have q12 := HFIN.out 12
            have q13 := HFIN.out 13
            have q14 := HFIN.out 14
            simp only [List.getElem?_toArray, List.getElem?_cons_zero, List.getElem?_cons_succ] at q0 q1 q2 q3 q4 q5 q6 q7 q8 q9 q10 q11 q12 q13 q14
            exact bodyPost_ret (v := .agg #[.int .u8 nk, .int .i64 na, .int .i64 nx, .slice B L.length d, .int .i64 l0, .int .i64 l1, .int .i64 l2, .int .i64 l3, .int .i64 l4, .int .i64 l5, .int .i64 l6, .int .i64 l7, .int .i64 m.n, .slice VA vn vc, .bool true]) (by simp [results, Tryz.results14, go_sem, q0, q1, q2, q3, q4, q5, q6, q7, q8, q9, q10, q11, q12, q13, q14]) rfl ⟨B, d, VA, vn, vc, by simp [endV], HFP.out.1, HFP.out.2⟩
end Go.Proofs.YthdcdffdpdoeoaaGreatDoor
