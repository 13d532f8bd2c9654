/-
  CONTRACTS OF THE STATEMENTS' OWN lit, read, write, back (layer 5): what they build; the memory that was there stays as it was. No condition.
-/
import Derived.Test.YtfnbffkiddofnaaDoorCm
import Derived.Test.YtfnbffkiddofnaaDoorEv
namespace Go.Proofs.YtfnbffkiddofnaaDoor
open Go.RowKit
set_option linter.unusedVariables false
/-- The ten cells of a block, set. -/
theorem ten_set {w2 : World} {g : Nat} {T : TypeId} {z0 z1 z2 z3 z4 z5 z6 z7 z8 z9 : Value} (h : w2.heap[g]? = some (.cells #[z0, z1, z2, z3, z4, z5, z6, z7, z8, z9] T (0, 0))) (v0 v1 v2 v3 v4 v5 v6 v7 v8 v9 : Value) :
    ((((((((((w2.setCell ⟨g, 0, none⟩ v0).setCell ⟨g, 1, none⟩ v1).setCell ⟨g, 2, none⟩ v2).setCell ⟨g, 3, none⟩ v3).setCell ⟨g, 4, none⟩ v4).setCell ⟨g, 5, none⟩ v5).setCell ⟨g, 6, none⟩ v6).setCell ⟨g, 7, none⟩ v7).setCell ⟨g, 8, none⟩ v8).setCell ⟨g, 9, none⟩ v9).heap[g]? = some (.cells #[v0, v1, v2, v3, v4, v5, v6, v7, v8, v9] T (0, 0)) := by
  have r0 := heap_set_same _ g 0 v0 _ _ h
  simp only [List.setIfInBounds_toArray, List.set_cons_zero] at r0
  have r1 := heap_set_same _ g 1 v1 _ _ r0
  simp only [List.setIfInBounds_toArray, List.set_cons_succ, List.set_cons_zero] at r1
  have r2 := heap_set_same _ g 2 v2 _ _ r1
  simp only [List.setIfInBounds_toArray, List.set_cons_succ, List.set_cons_zero] at r2
  have r3 := heap_set_same _ g 3 v3 _ _ r2
  simp only [List.setIfInBounds_toArray, List.set_cons_succ, List.set_cons_zero] at r3
  have r4 := heap_set_same _ g 4 v4 _ _ r3
  simp only [List.setIfInBounds_toArray, List.set_cons_succ, List.set_cons_zero] at r4
  have r5 := heap_set_same _ g 5 v5 _ _ r4
  simp only [List.setIfInBounds_toArray, List.set_cons_succ, List.set_cons_zero] at r5
  have r6 := heap_set_same _ g 6 v6 _ _ r5
  simp only [List.setIfInBounds_toArray, List.set_cons_succ, List.set_cons_zero] at r6
  have r7 := heap_set_same _ g 7 v7 _ _ r6
  simp only [List.setIfInBounds_toArray, List.set_cons_succ, List.set_cons_zero] at r7
  have r8 := heap_set_same _ g 8 v8 _ _ r7
  simp only [List.setIfInBounds_toArray, List.set_cons_succ, List.set_cons_zero] at r8
  have r9 := heap_set_same _ g 9 v9 _ _ r8
  simp only [List.setIfInBounds_toArray, List.set_cons_succ, List.set_cons_zero] at r9
  exact r9
theorem ten_low {w w2 : World} {B g : Nat} (h : Below B w w2) (hg : B ≤ g) (v0 v1 v2 v3 v4 v5 v6 v7 v8 v9 : Value) : Below B w ((((((((((w2.setCell ⟨g, 0, none⟩ v0).setCell ⟨g, 1, none⟩ v1).setCell ⟨g, 2, none⟩ v2).setCell ⟨g, 3, none⟩ v3).setCell ⟨g, 4, none⟩ v4).setCell ⟨g, 5, none⟩ v5).setCell ⟨g, 6, none⟩ v6).setCell ⟨g, 7, none⟩ v7).setCell ⟨g, 8, none⟩ v8).setCell ⟨g, 9, none⟩ v9) :=
  (((((((((h.setCell (p := ⟨g, 0, none⟩) hg _).setCell (p := ⟨g, 1, none⟩) hg _).setCell (p := ⟨g, 2, none⟩) hg _).setCell (p := ⟨g, 3, none⟩) hg _).setCell (p := ⟨g, 4, none⟩) hg _).setCell (p := ⟨g, 5, none⟩) hg _).setCell (p := ⟨g, 6, none⟩) hg _).setCell (p := ⟨g, 7, none⟩) hg _).setCell (p := ⟨g, 8, none⟩) hg _).setCell (p := ⟨g, 9, none⟩) hg _
set_option maxRecDepth 100000 in
theorem clit_any (n : Int) (w : World) : Calls Tryd.prog 6 #[.int .i64 n] w fun z w' => z = .returned (.agg #[.int .u8 1, .int .i64 n, .slice none 0 0]) ∧ Below w.heap.size w w' := by
  go_enter Tryd.func6, Tryd.ntmps6
  go_wp2_with fail
  exact bodyPost_ret (v := .agg #[.int .u8 1, .int .i64 n, .slice none 0 0]) (by simp [results, Tryd.results6, go_sem]) rfl ⟨rfl, by go_grown⟩
set_option maxRecDepth 100000 in
theorem cread_any (w : World) : Calls Tryd.prog 5 #[] w fun z w' => z = .returned (.agg #[.int .u8 2, .int .i64 0, .int .u8 1, .int .i64 0, .slice none 0 0, .int .u8 0, .int .i64 0, .slice none 0 0, .slice none 0 0, .slice none 0 0]) ∧ Below w.heap.size w w' := by
  have hlit := Lib.hid clit_any
  have hb : Below w.heap.size w (w.alloc (.cells #[.int .u8 0, .int .i64 0, .int .u8 0, .int .i64 0, .slice none 0 0, .int .u8 0, .int .i64 0, .slice none 0 0, .slice none 0 0, .slice none 0 0] 28)) := (Below.refl _ _).alloc (Nat.le_refl _) _
  have HB := Lib.hid hb
  clear hb
  go_enter Tryd.func5, Tryd.ntmps5
  go_wp2_with fail
  refine (hlit.out _ _).mono ?_
  rintro z w2 ⟨rfl, b2⟩
  have hr : w2.heap[w.heap.size]? = some (.cells #[.int .u8 0, .int .i64 0, .int .u8 0, .int .i64 0, .slice none 0 0, .int .u8 0, .int .i64 0, .slice none 0 0, .slice none 0 0, .slice none 0 0] 28 (0, 0)) := (b2.block w.heap.size (by simp)).trans (heap_alloc_new w _)
  have hc : ∀ i, w2.cell? ⟨w.heap.size, i, none⟩ = (#[.int .u8 0, .int .i64 0, .int .u8 0, .int .i64 0, .slice none 0 0, .int .u8 0, .int .i64 0, .slice none 0 0, .slice none 0 0, .slice none 0 0] : Array Value)[i]? := fun i => by simp [World.cell?, hr]
  have fz : ∀ i, w2.frozen? ⟨w.heap.size, i, none⟩ = false := fun i => by simp [World.frozen?, hr]
  have c0 := hc 0
  have c1 := hc 1
  have c2 := hc 2
  have c3 := hc 3
  have c4 := hc 4
  have c5 := hc 5
  have c6 := hc 6
  have c7 := hc 7
  have c8 := hc 8
  have c9 := hc 9
  simp only [List.getElem?_toArray, List.getElem?_cons_zero, List.getElem?_cons_succ] at c0 c1 c2 c3 c4 c5 c6 c7 c8 c9
  have h9 := ten_set hr (.int .u8 2) (.int .i64 0) (.int .u8 1) (.int .i64 0) (.slice none 0 0) (.int .u8 0) (.int .i64 0) (.slice none 0 0) (.slice none 0 0) (.slice none 0 0)
  have HB2 := Lib.hid (ten_low (g := w.heap.size) (HB.out.trans (b2.mono HB.out.size)) (Nat.le_refl _) (.int .u8 2) (.int .i64 0) (.int .u8 1) (.int .i64 0) (.slice none 0 0) (.int .u8 0) (.int .i64 0) (.slice none 0 0) (.slice none 0 0) (.slice none 0 0))
  have hd := fun i => cell_of_row _ w.heap.size i _ _ (0, 0) h9
  have HD := Lib.hid hd
  clear hc hr b2 h9 hd
  go_wp2_with fail
  have d0 := HD.out 0
  have d1 := HD.out 1
  have d2 := HD.out 2
  have d3 := HD.out 3
  have d4 := HD.out 4
  have d5 := HD.out 5
  have d6 := HD.out 6
  have d7 := HD.out 7
  have d8 := HD.out 8
  have d9 := HD.out 9
  simp only [List.getElem?_toArray, List.getElem?_cons_zero, List.getElem?_cons_succ] at d0 d1 d2 d3 d4 d5 d6 d7 d8 d9
  exact bodyPost_ret (v := .agg #[.int .u8 2, .int .i64 0, .int .u8 1, .int .i64 0, .slice none 0 0, .int .u8 0, .int .i64 0, .slice none 0 0, .slice none 0 0, .slice none 0 0]) (by simp [results, Tryd.results5, go_sem, d0, d1, d2, d3, d4, d5, d6, d7, d8, d9]) rfl ⟨rfl, HB2.out⟩
set_option maxRecDepth 100000 in
theorem cback_any (w : World) : Calls Tryd.prog 17 #[] w fun z w' => z = .returned (.agg #[.int .u8 8, .int .i64 0, .int .u8 1, .int .i64 0, .slice none 0 0, .int .u8 0, .int .i64 0, .slice none 0 0, .slice none 0 0, .slice none 0 0]) ∧ Below w.heap.size w w' := by
  have hlit := Lib.hid clit_any
  have hb : Below w.heap.size w (w.alloc (.cells #[.int .u8 0, .int .i64 0, .int .u8 0, .int .i64 0, .slice none 0 0, .int .u8 0, .int .i64 0, .slice none 0 0, .slice none 0 0, .slice none 0 0] 28)) := (Below.refl _ _).alloc (Nat.le_refl _) _
  have HB := Lib.hid hb
  clear hb
  go_enter Tryd.func17, Tryd.ntmps17
  go_wp2_with fail
  refine (hlit.out _ _).mono ?_
  rintro z w2 ⟨rfl, b2⟩
  have hr : w2.heap[w.heap.size]? = some (.cells #[.int .u8 0, .int .i64 0, .int .u8 0, .int .i64 0, .slice none 0 0, .int .u8 0, .int .i64 0, .slice none 0 0, .slice none 0 0, .slice none 0 0] 28 (0, 0)) := (b2.block w.heap.size (by simp)).trans (heap_alloc_new w _)
  have hc : ∀ i, w2.cell? ⟨w.heap.size, i, none⟩ = (#[.int .u8 0, .int .i64 0, .int .u8 0, .int .i64 0, .slice none 0 0, .int .u8 0, .int .i64 0, .slice none 0 0, .slice none 0 0, .slice none 0 0] : Array Value)[i]? := fun i => by simp [World.cell?, hr]
  have fz : ∀ i, w2.frozen? ⟨w.heap.size, i, none⟩ = false := fun i => by simp [World.frozen?, hr]
  have c0 := hc 0
  have c1 := hc 1
  have c2 := hc 2
  have c3 := hc 3
  have c4 := hc 4
  have c5 := hc 5
  have c6 := hc 6
  have c7 := hc 7
  have c8 := hc 8
  have c9 := hc 9
  simp only [List.getElem?_toArray, List.getElem?_cons_zero, List.getElem?_cons_succ] at c0 c1 c2 c3 c4 c5 c6 c7 c8 c9
  have h9 := ten_set hr (.int .u8 8) (.int .i64 0) (.int .u8 1) (.int .i64 0) (.slice none 0 0) (.int .u8 0) (.int .i64 0) (.slice none 0 0) (.slice none 0 0) (.slice none 0 0)
  have HB2 := Lib.hid (ten_low (g := w.heap.size) (HB.out.trans (b2.mono HB.out.size)) (Nat.le_refl _) (.int .u8 8) (.int .i64 0) (.int .u8 1) (.int .i64 0) (.slice none 0 0) (.int .u8 0) (.int .i64 0) (.slice none 0 0) (.slice none 0 0) (.slice none 0 0))
  have hd := fun i => cell_of_row _ w.heap.size i _ _ (0, 0) h9
  have HD := Lib.hid hd
  clear hc hr b2 h9 hd
  go_wp2_with fail
  have d0 := HD.out 0
  have d1 := HD.out 1
  have d2 := HD.out 2
  have d3 := HD.out 3
  have d4 := HD.out 4
  have d5 := HD.out 5
  have d6 := HD.out 6
  have d7 := HD.out 7
  have d8 := HD.out 8
  have d9 := HD.out 9
  simp only [List.getElem?_toArray, List.getElem?_cons_zero, List.getElem?_cons_succ] at d0 d1 d2 d3 d4 d5 d6 d7 d8 d9
  exact bodyPost_ret (v := .agg #[.int .u8 8, .int .i64 0, .int .u8 1, .int .i64 0, .slice none 0 0, .int .u8 0, .int .i64 0, .slice none 0 0, .slice none 0 0, .slice none 0 0]) (by simp [results, Tryd.results17, go_sem, d0, d1, d2, d3, d4, d5, d6, d7, d8, d9]) rfl ⟨rfl, HB2.out⟩
set_option maxRecDepth 100000 in
theorem cwrite_any (w : World) : Calls Tryd.prog 8 #[] w fun z w' => z = .returned (.agg #[.int .u8 3, .int .i64 0, .int .u8 1, .int .i64 0, .slice none 0 0, .int .u8 1, .int .i64 1, .slice none 0 0, .slice none 0 0, .slice none 0 0]) ∧ Below w.heap.size w w' := by
  have hlit := Lib.hid clit_any
  have hb : Below w.heap.size w (w.alloc (.cells #[.int .u8 0, .int .i64 0, .int .u8 0, .int .i64 0, .slice none 0 0, .int .u8 0, .int .i64 0, .slice none 0 0, .slice none 0 0, .slice none 0 0] 28)) := (Below.refl _ _).alloc (Nat.le_refl _) _
  have HB := Lib.hid hb
  clear hb
  go_enter Tryd.func8, Tryd.ntmps8
  go_wp2_with fail
  refine (hlit.out _ _).mono ?_
  rintro z w2 ⟨rfl, b2⟩
  go_wp2_with fail
  refine (hlit.out _ _).mono ?_
  rintro z w3 ⟨rfl, b3⟩
  have b2 := b2.trans (b3.mono b2.size)
  clear b3
  have hr : w3.heap[w.heap.size]? = some (.cells #[.int .u8 0, .int .i64 0, .int .u8 0, .int .i64 0, .slice none 0 0, .int .u8 0, .int .i64 0, .slice none 0 0, .slice none 0 0, .slice none 0 0] 28 (0, 0)) := (b2.block w.heap.size (by simp)).trans (heap_alloc_new w _)
  have hc : ∀ i, w3.cell? ⟨w.heap.size, i, none⟩ = (#[.int .u8 0, .int .i64 0, .int .u8 0, .int .i64 0, .slice none 0 0, .int .u8 0, .int .i64 0, .slice none 0 0, .slice none 0 0, .slice none 0 0] : Array Value)[i]? := fun i => by simp [World.cell?, hr]
  have fz : ∀ i, w3.frozen? ⟨w.heap.size, i, none⟩ = false := fun i => by simp [World.frozen?, hr]
  have c0 := hc 0
  have c1 := hc 1
  have c2 := hc 2
  have c3 := hc 3
  have c4 := hc 4
  have c5 := hc 5
  have c6 := hc 6
  have c7 := hc 7
  have c8 := hc 8
  have c9 := hc 9
  simp only [List.getElem?_toArray, List.getElem?_cons_zero, List.getElem?_cons_succ] at c0 c1 c2 c3 c4 c5 c6 c7 c8 c9
  have h9 := ten_set hr (.int .u8 3) (.int .i64 0) (.int .u8 1) (.int .i64 0) (.slice none 0 0) (.int .u8 1) (.int .i64 1) (.slice none 0 0) (.slice none 0 0) (.slice none 0 0)
  have HB2 := Lib.hid (ten_low (g := w.heap.size) (HB.out.trans (b2.mono HB.out.size)) (Nat.le_refl _) (.int .u8 3) (.int .i64 0) (.int .u8 1) (.int .i64 0) (.slice none 0 0) (.int .u8 1) (.int .i64 1) (.slice none 0 0) (.slice none 0 0) (.slice none 0 0))
  have hd := fun i => cell_of_row _ w.heap.size i _ _ (0, 0) h9
  have HD := Lib.hid hd
  clear hc hr b2 h9 hd
  go_wp2_with fail
  have d0 := HD.out 0
  have d1 := HD.out 1
  have d2 := HD.out 2
  have d3 := HD.out 3
  have d4 := HD.out 4
  have d5 := HD.out 5
  have d6 := HD.out 6
  have d7 := HD.out 7
  have d8 := HD.out 8
  have d9 := HD.out 9
  simp only [List.getElem?_toArray, List.getElem?_cons_zero, List.getElem?_cons_succ] at d0 d1 d2 d3 d4 d5 d6 d7 d8 d9
  exact bodyPost_ret (v := .agg #[.int .u8 3, .int .i64 0, .int .u8 1, .int .i64 0, .slice none 0 0, .int .u8 1, .int .i64 1, .slice none 0 0, .slice none 0 0, .slice none 0 0]) (by simp [results, Tryd.results8, go_sem, d0, d1, d2, d3, d4, d5, d6, d7, d8, d9]) rfl ⟨rfl, HB2.out⟩
end Go.Proofs.YtfnbffkiddofnaaDoor
