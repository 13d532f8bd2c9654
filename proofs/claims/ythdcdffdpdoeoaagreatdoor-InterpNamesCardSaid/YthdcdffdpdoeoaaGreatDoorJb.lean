/-
  CONTRACTS OF THE STATEMENTS' OWN lit, local, read, write, back, plus, of, answer (layer 9): what they build; the memory that was there stays as it was. No condition.
-/
import Derived.Test.YthdcdffdpdoeoaaGreatDoorCz
import Derived.StillTailTactics
import Derived.Test.YthdcdffdpdoeoaaGreatDoorJa
namespace Go.Proofs.YthdcdffdpdoeoaaGreatDoor
set_option maxRecDepth 100000
open Go.RowKit
set_option linter.unusedVariables false
set_option maxRecDepth 100000 in
theorem jlit_any (n : Int) (w : World) : Calls Tryz.prog 16 #[.int .i64 n] w fun z w' => z = .returned (.agg #[.int .u8 1, .int .i64 n, .slice none 0 0]) ∧ Below w.heap.size w w' := by
  go_enter Tryz.func16, Tryz.ntmps16
  go_wp2_with fail
  exact bodyPost_ret (v := .agg #[.int .u8 1, .int .i64 n, .slice none 0 0]) (by simp [results, Tryz.results16, go_sem]) rfl ⟨rfl, by go_grown⟩
set_option maxRecDepth 100000 in
theorem jlocal_any (n : Int) (w : World) : Calls Tryz.prog 20 #[.int .i64 n] w fun z w' => z = .returned (.agg #[.int .u8 2, .int .i64 n, .slice none 0 0]) ∧ Below w.heap.size w w' := by
  go_enter Tryz.func20, Tryz.ntmps20
  go_wp2_with fail
  exact bodyPost_ret (v := .agg #[.int .u8 2, .int .i64 n, .slice none 0 0]) (by simp [results, Tryz.results20, go_sem]) rfl ⟨rfl, by go_grown⟩
set_option maxRecDepth 100000 in
theorem jread_any (tt v : Int) (w : World) : Calls Tryz.prog 18 #[.int .i64 tt, .int .i64 v] w fun z w' => z = .returned (.agg #[.int .u8 2, .int .i64 tt, .int .u8 1, .int .i64 v, .slice none 0 0, .int .u8 0, .int .i64 0, .slice none 0 0, .slice none 0 0, .slice none 0 0]) ∧ Below w.heap.size w w' := by
  have hlit := Lib.hid jlit_any
  have hb : Below w.heap.size w (w.alloc (.cells #[.int .u8 0, .int .i64 0, .int .u8 0, .int .i64 0, .slice none 0 0, .int .u8 0, .int .i64 0, .slice none 0 0, .slice none 0 0, .slice none 0 0] 43)) := (Below.refl _ _).alloc (Nat.le_refl _) _
  have HB := Lib.hid hb
  clear hb
  go_enter Tryz.func18, Tryz.ntmps18
  go_wp2_with fail
  refine (hlit.out _ _).mono ?_
  rintro z w2 ⟨rfl, b2⟩
  have hr : w2.heap[w.heap.size]? = some (.cells #[.int .u8 0, .int .i64 0, .int .u8 0, .int .i64 0, .slice none 0 0, .int .u8 0, .int .i64 0, .slice none 0 0, .slice none 0 0, .slice none 0 0] 43 (0, 0)) := (b2.block w.heap.size (by simp)).trans (heap_alloc_new w _)
  have hc : ∀ i, w2.cell? ⟨w.heap.size, i, none⟩ = (#[.int .u8 0, .int .i64 0, .int .u8 0, .int .i64 0, .slice none 0 0, .int .u8 0, .int .i64 0, .slice none 0 0, .slice none 0 0, .slice none 0 0] : Array Value)[i]? := fun i => by simp [World.cell?, hr]
  have fz : ∀ i, w2.frozen? ⟨w.heap.size, i, none⟩ = false := fun i => by simp [World.frozen?, hr]
  have c0 := hc 0
  have c1 := hc 1
  have c2 := hc 2
  have c3 := hc 3
  have c4 := hc 4
  have c5 := hc 5
  have c6 := hc 6
  have c7 := hc 7
  have c8 := hc 8
  have c9 := hc 9
  simp only [List.getElem?_toArray, List.getElem?_cons_zero, List.getElem?_cons_succ] at c0 c1 c2 c3 c4 c5 c6 c7 c8 c9
  have h9 := ten_set hr (.int .u8 2) (.int .i64 tt) (.int .u8 1) (.int .i64 v) (.slice none 0 0) (.int .u8 0) (.int .i64 0) (.slice none 0 0) (.slice none 0 0) (.slice none 0 0)
  have HB2 := Lib.hid (ten_low (g := w.heap.size) (HB.out.trans (b2.mono HB.out.size)) (Nat.le_refl _) (.int .u8 2) (.int .i64 tt) (.int .u8 1) (.int .i64 v) (.slice none 0 0) (.int .u8 0) (.int .i64 0) (.slice none 0 0) (.slice none 0 0) (.slice none 0 0))
  have hd := fun i => cell_of_row _ (w.heap.size) i _ _ (0, 0) h9
  have HD := Lib.hid hd
  clear hc hr h9 hd
  clear b2
  go_wp2_with fail
  have d0 := HD.out 0
  have d1 := HD.out 1
  have d2 := HD.out 2
  have d3 := HD.out 3
  have d4 := HD.out 4
  have d5 := HD.out 5
  have d6 := HD.out 6
  have d7 := HD.out 7
  have d8 := HD.out 8
  have d9 := HD.out 9
  simp only [List.getElem?_toArray, List.getElem?_cons_zero, List.getElem?_cons_succ] at d0 d1 d2 d3 d4 d5 d6 d7 d8 d9
  exact bodyPost_ret (v := .agg #[.int .u8 2, .int .i64 tt, .int .u8 1, .int .i64 v, .slice none 0 0, .int .u8 0, .int .i64 0, .slice none 0 0, .slice none 0 0, .slice none 0 0]) (by simp [results, Tryz.results18, go_sem, d0, d1, d2, d3, d4, d5, d6, d7, d8, d9]) rfl ⟨rfl, HB2.out⟩
set_option maxRecDepth 100000 in
theorem jback_any (o : Nat) (n : Int) (A : Option Addr) (l c : Nat) (w : World) : Calls Tryz.prog 19 #[.agg #[.int .u8 o, .int .i64 n, .slice A l c]] w fun z w' => z = .returned (.agg #[.int .u8 8, .int .i64 0, .int .u8 o, .int .i64 n, .slice A l c, .int .u8 0, .int .i64 0, .slice none 0 0, .slice none 0 0, .slice none 0 0]) ∧ Below w.heap.size w w' := by
  have hb0 : Below w.heap.size w (w.alloc (.cells #[.int .u8 o, .int .i64 n, .slice A l c] 40)) := (Below.refl _ _).alloc (Nat.le_refl _) _
  have hz : (w.alloc (.cells #[.int .u8 o, .int .i64 n, .slice A l c] 40)).heap.size = w.heap.size + 1 := by simp
  have hr : ((w.alloc (.cells #[.int .u8 o, .int .i64 n, .slice A l c] 40)).alloc (.cells #[.int .u8 0, .int .i64 0, .int .u8 0, .int .i64 0, .slice none 0 0, .int .u8 0, .int .i64 0, .slice none 0 0, .slice none 0 0, .slice none 0 0] 43)).heap[w.heap.size + 1]? = some (.cells #[.int .u8 0, .int .i64 0, .int .u8 0, .int .i64 0, .slice none 0 0, .int .u8 0, .int .i64 0, .slice none 0 0, .slice none 0 0, .slice none 0 0] 43 (0, 0)) := by rw [← hz]; exact heap_alloc_new _ _
  have he : ((w.alloc (.cells #[.int .u8 o, .int .i64 n, .slice A l c] 40)).alloc (.cells #[.int .u8 0, .int .i64 0, .int .u8 0, .int .i64 0, .slice none 0 0, .int .u8 0, .int .i64 0, .slice none 0 0, .slice none 0 0, .slice none 0 0] 43)).heap[w.heap.size]? = some (.cells #[.int .u8 o, .int .i64 n, .slice A l c] 40 (0, 0)) := (Below.heap_alloc _ _ w.heap.size (by simp)).trans (heap_alloc_new w _)
  have HB := Lib.hid (hb0.alloc (by rw [hz]; omega) (.cells #[.int .u8 0, .int .i64 0, .int .u8 0, .int .i64 0, .slice none 0 0, .int .u8 0, .int .i64 0, .slice none 0 0, .slice none 0 0, .slice none 0 0] 43))
  go_enter Tryz.func19, Tryz.ntmps19
  go_upto_region 1 with fail
  obtain ⟨W, hW⟩ : ∃ W, W = (w.alloc (.cells #[.int .u8 o, .int .i64 n, .slice A l c] 40)).alloc (.cells #[.int .u8 0, .int .i64 0, .int .u8 0, .int .i64 0, .slice none 0 0, .int .u8 0, .int .i64 0, .slice none 0 0, .slice none 0 0, .slice none 0 0] 43) := ⟨_, rfl⟩
  rw [← hW] at hr he HB ⊢
  have e0 := cell_of_row _ w.heap.size 0 _ _ (0, 0) he
  have e1 := cell_of_row _ w.heap.size 1 _ _ (0, 0) he
  have e2 := cell_of_row _ w.heap.size 2 _ _ (0, 0) he
  simp only [List.getElem?_toArray, List.getElem?_cons_zero, List.getElem?_cons_succ] at e0 e1 e2
  clear hW he hb0 hz
  have hc : ∀ i, W.cell? ⟨w.heap.size + 1, i, none⟩ = (#[.int .u8 0, .int .i64 0, .int .u8 0, .int .i64 0, .slice none 0 0, .int .u8 0, .int .i64 0, .slice none 0 0, .slice none 0 0, .slice none 0 0] : Array Value)[i]? := fun i => by simp [World.cell?, hr]
  have fz : ∀ i, W.frozen? ⟨w.heap.size + 1, i, none⟩ = false := fun i => by simp [World.frozen?, hr]
  have c0 := hc 0
  have c1 := hc 1
  have c2 := hc 2
  have c3 := hc 3
  have c4 := hc 4
  have c5 := hc 5
  have c6 := hc 6
  have c7 := hc 7
  have c8 := hc 8
  have c9 := hc 9
  simp only [List.getElem?_toArray, List.getElem?_cons_zero, List.getElem?_cons_succ] at c0 c1 c2 c3 c4 c5 c6 c7 c8 c9
  have h9 := ten_set hr (.int .u8 8) (.int .i64 0) (.int .u8 o) (.int .i64 n) (.slice A l c) (.int .u8 0) (.int .i64 0) (.slice none 0 0) (.slice none 0 0) (.slice none 0 0)
  have HB2 := Lib.hid (ten_low (g := w.heap.size + 1) HB.out (by omega) (.int .u8 8) (.int .i64 0) (.int .u8 o) (.int .i64 n) (.slice A l c) (.int .u8 0) (.int .i64 0) (.slice none 0 0) (.slice none 0 0) (.slice none 0 0))
  have hd := fun i => cell_of_row _ (w.heap.size + 1) i _ _ (0, 0) h9
  have HD := Lib.hid hd
  clear hc hr h9 hd
  go_wp2_with fail
  have d0 := HD.out 0
  have d1 := HD.out 1
  have d2 := HD.out 2
  have d3 := HD.out 3
  have d4 := HD.out 4
  have d5 := HD.out 5
  have d6 := HD.out 6
  have d7 := HD.out 7
  have d8 := HD.out 8
  have d9 := HD.out 9
  simp only [List.getElem?_toArray, List.getElem?_cons_zero, List.getElem?_cons_succ] at d0 d1 d2 d3 d4 d5 d6 d7 d8 d9
  exact bodyPost_ret (v := .agg #[.int .u8 8, .int .i64 0, .int .u8 o, .int .i64 n, .slice A l c, .int .u8 0, .int .i64 0, .slice none 0 0, .slice none 0 0, .slice none 0 0]) (by simp [results, Tryz.results19, go_sem, d0, d1, d2, d3, d4, d5, d6, d7, d8, d9]) rfl ⟨rfl, HB2.out⟩
set_option maxRecDepth 100000 in
theorem jwrite_any (v : Int) (o : Nat) (n : Int) (A : Option Addr) (l c : Nat) (w : World) : Calls Tryz.prog 15 #[.int .i64 v, .agg #[.int .u8 o, .int .i64 n, .slice A l c]] w fun z w' => z = .returned (.agg #[.int .u8 3, .int .i64 0, .int .u8 1, .int .i64 v, .slice none 0 0, .int .u8 o, .int .i64 n, .slice A l c, .slice none 0 0, .slice none 0 0]) ∧ Below w.heap.size w w' := by
  have hlit := Lib.hid jlit_any
  have hb0 : Below w.heap.size w (w.alloc (.cells #[.int .u8 o, .int .i64 n, .slice A l c] 40)) := (Below.refl _ _).alloc (Nat.le_refl _) _
  have hz : (w.alloc (.cells #[.int .u8 o, .int .i64 n, .slice A l c] 40)).heap.size = w.heap.size + 1 := by simp
  have hr : ((w.alloc (.cells #[.int .u8 o, .int .i64 n, .slice A l c] 40)).alloc (.cells #[.int .u8 0, .int .i64 0, .int .u8 0, .int .i64 0, .slice none 0 0, .int .u8 0, .int .i64 0, .slice none 0 0, .slice none 0 0, .slice none 0 0] 43)).heap[w.heap.size + 1]? = some (.cells #[.int .u8 0, .int .i64 0, .int .u8 0, .int .i64 0, .slice none 0 0, .int .u8 0, .int .i64 0, .slice none 0 0, .slice none 0 0, .slice none 0 0] 43 (0, 0)) := by rw [← hz]; exact heap_alloc_new _ _
  have he : ((w.alloc (.cells #[.int .u8 o, .int .i64 n, .slice A l c] 40)).alloc (.cells #[.int .u8 0, .int .i64 0, .int .u8 0, .int .i64 0, .slice none 0 0, .int .u8 0, .int .i64 0, .slice none 0 0, .slice none 0 0, .slice none 0 0] 43)).heap[w.heap.size]? = some (.cells #[.int .u8 o, .int .i64 n, .slice A l c] 40 (0, 0)) := (Below.heap_alloc _ _ w.heap.size (by simp)).trans (heap_alloc_new w _)
  have hzz : ((w.alloc (.cells #[.int .u8 o, .int .i64 n, .slice A l c] 40)).alloc (.cells #[.int .u8 0, .int .i64 0, .int .u8 0, .int .i64 0, .slice none 0 0, .int .u8 0, .int .i64 0, .slice none 0 0, .slice none 0 0, .slice none 0 0] 43)).heap.size = w.heap.size + 2 := by simp
  have HB := Lib.hid (hb0.alloc (by rw [hz]; omega) (.cells #[.int .u8 0, .int .i64 0, .int .u8 0, .int .i64 0, .slice none 0 0, .int .u8 0, .int .i64 0, .slice none 0 0, .slice none 0 0, .slice none 0 0] 43))
  go_enter Tryz.func15, Tryz.ntmps15
  go_upto_region 1 with fail
  obtain ⟨W, hW⟩ : ∃ W, W = (w.alloc (.cells #[.int .u8 o, .int .i64 n, .slice A l c] 40)).alloc (.cells #[.int .u8 0, .int .i64 0, .int .u8 0, .int .i64 0, .slice none 0 0, .int .u8 0, .int .i64 0, .slice none 0 0, .slice none 0 0, .slice none 0 0] 43) := ⟨_, rfl⟩
  rw [← hW] at hr he hzz HB ⊢
  have hwl : w.heap.size < W.heap.size := by omega
  have EB : ∀ w', Below W.heap.size W w' → (w'.cell? ⟨w.heap.size, 0, none⟩ = some (.int .u8 o) ∧ w'.cell? ⟨w.heap.size, 1, none⟩ = some (.int .i64 n) ∧ w'.cell? ⟨w.heap.size, 2, none⟩ = some (.slice A l c)) ∧ w'.heap[w.heap.size + 1]? = some (.cells #[.int .u8 0, .int .i64 0, .int .u8 0, .int .i64 0, .slice none 0 0, .int .u8 0, .int .i64 0, .slice none 0 0, .slice none 0 0, .slice none 0 0] 43 (0, 0)) := fun w' hb => by
    have he' := (hb.block w.heap.size (by omega)).trans he
    have e0 := cell_of_row _ w.heap.size 0 _ _ (0, 0) he'
    have e1 := cell_of_row _ w.heap.size 1 _ _ (0, 0) he'
    have e2 := cell_of_row _ w.heap.size 2 _ _ (0, 0) he'
    simp only [List.getElem?_toArray, List.getElem?_cons_zero, List.getElem?_cons_succ] at e0 e1 e2
    exact ⟨⟨e0, e1, e2⟩, (hb.block _ (by omega)).trans hr⟩
  have HE := Lib.hid EB
  obtain ⟨⟨e0, e1, e2⟩, _⟩ := EB W (Below.refl _ _)
  have TC : Hid (∀ w' : World, w'.heap[w.heap.size + 1]? = some (.cells #[.int .u8 0, .int .i64 0, .int .u8 0, .int .i64 0, .slice none 0 0, .int .u8 0, .int .i64 0, .slice none 0 0, .slice none 0 0, .slice none 0 0] 43 (0, 0)) → (w'.cell? ⟨w.heap.size + 1, 0, none⟩ = some (.int .u8 0) ∧ w'.cell? ⟨w.heap.size + 1, 1, none⟩ = some (.int .i64 0) ∧ w'.cell? ⟨w.heap.size + 1, 2, none⟩ = some (.int .u8 0) ∧ w'.cell? ⟨w.heap.size + 1, 3, none⟩ = some (.int .i64 0) ∧ w'.cell? ⟨w.heap.size + 1, 4, none⟩ = some (.slice none 0 0) ∧ w'.cell? ⟨w.heap.size + 1, 5, none⟩ = some (.int .u8 0) ∧ w'.cell? ⟨w.heap.size + 1, 6, none⟩ = some (.int .i64 0) ∧ w'.cell? ⟨w.heap.size + 1, 7, none⟩ = some (.slice none 0 0) ∧ w'.cell? ⟨w.heap.size + 1, 8, none⟩ = some (.slice none 0 0) ∧ w'.cell? ⟨w.heap.size + 1, 9, none⟩ = some (.slice none 0 0)) ∧ (w'.frozen? ⟨w.heap.size + 1, 0, none⟩ = false ∧ w'.frozen? ⟨w.heap.size + 1, 1, none⟩ = false ∧ w'.frozen? ⟨w.heap.size + 1, 2, none⟩ = false ∧ w'.frozen? ⟨w.heap.size + 1, 3, none⟩ = false ∧ w'.frozen? ⟨w.heap.size + 1, 4, none⟩ = false ∧ w'.frozen? ⟨w.heap.size + 1, 5, none⟩ = false ∧ w'.frozen? ⟨w.heap.size + 1, 6, none⟩ = false ∧ w'.frozen? ⟨w.heap.size + 1, 7, none⟩ = false ∧ w'.frozen? ⟨w.heap.size + 1, 8, none⟩ = false ∧ w'.frozen? ⟨w.heap.size + 1, 9, none⟩ = false)) := fun w' hr => by
    have hc : ∀ i, w'.cell? ⟨w.heap.size + 1, i, none⟩ = (#[.int .u8 0, .int .i64 0, .int .u8 0, .int .i64 0, .slice none 0 0, .int .u8 0, .int .i64 0, .slice none 0 0, .slice none 0 0, .slice none 0 0] : Array Value)[i]? := fun i => by simp [World.cell?, hr]
    have fz : ∀ i, w'.frozen? ⟨w.heap.size + 1, i, none⟩ = false := fun i => by simp [World.frozen?, hr]
    exact ⟨⟨hc 0, hc 1, hc 2, hc 3, hc 4, hc 5, hc 6, hc 7, hc 8, hc 9⟩, ⟨fz 0, fz 1, fz 2, fz 3, fz 4, fz 5, fz 6, fz 7, fz 8, fz 9⟩⟩
  clear hW he hb0 hz hr hzz EB hwl
  go_region_law
    (rw [if_pos (by rfl)]; go_simp; go_at_call 16; refine (hlit.out _ _).mono ?_; rintro z w3 ⟨rfl, b3⟩; have b4 : Below W.heap.size W w3 := ((Below.refl _ W).drew).trans (b3.mono (Nat.le_refl _)); obtain ⟨⟨g0, g1, g2⟩, gr⟩ := HE.out w3 b4; obtain ⟨⟨c0, c1, c2, c3, c4, c5, c6, c7, c8, c9⟩, ⟨z0, z1, z2, z3, z4, z5, z6, z7, z8, z9⟩⟩ := TC.out w3 gr)
  all_goals
    have h9 := ten_set gr (.int .u8 3) (.int .i64 0) (.int .u8 1) (.int .i64 v) (.slice none 0 0) (.int .u8 o) (.int .i64 n) (.slice A l c) (.slice none 0 0) (.slice none 0 0)
    have HB2 := Lib.hid (ten_low (g := w.heap.size + 1) (HB.out.trans (b4.mono HB.out.size)) (by omega) (.int .u8 3) (.int .i64 0) (.int .u8 1) (.int .i64 v) (.slice none 0 0) (.int .u8 o) (.int .i64 n) (.slice A l c) (.slice none 0 0) (.slice none 0 0))
    have hd := fun i => cell_of_row _ (w.heap.size + 1) i _ _ (0, 0) h9
    have HD := Lib.hid hd
    clear h9 hd c0 c1 c2 c3 c4 c5 c6 c7 c8 c9 z0 z1 z2 z3 z4 z5 z6 z7 z8 z9 gr
    go_wp2_with fail
    have d0 := HD.out 0
    have d1 := HD.out 1
    have d2 := HD.out 2
    have d3 := HD.out 3
    have d4 := HD.out 4
    have d5 := HD.out 5
    have d6 := HD.out 6
    have d7 := HD.out 7
    have d8 := HD.out 8
    have d9 := HD.out 9
    simp only [List.getElem?_toArray, List.getElem?_cons_zero, List.getElem?_cons_succ] at d0 d1 d2 d3 d4 d5 d6 d7 d8 d9
    exact bodyPost_ret (v := .agg #[.int .u8 3, .int .i64 0, .int .u8 1, .int .i64 v, .slice none 0 0, .int .u8 o, .int .i64 n, .slice A l c, .slice none 0 0, .slice none 0 0]) (by simp [results, Tryz.results15, go_sem, d0, d1, d2, d3, d4, d5, d6, d7, d8, d9]) rfl ⟨rfl, HB2.out⟩
set_option maxRecDepth 100000 in
theorem jor_any (A : Option Addr) (l c : Nat) (B : Option Addr) (m d : Nat) (w : World) : Calls Tryz.prog 13 #[.slice A l c, .slice B m d] w fun z w' => z = .returned (.agg #[.int .u8 7, .int .i64 0, .int .u8 0, .int .i64 0, .slice none 0 0, .int .u8 0, .int .i64 0, .slice none 0 0, .slice A l c, .slice B m d]) ∧ Below w.heap.size w w' := by
  have HB := Lib.hid ((Below.refl w.heap.size w).alloc (Nat.le_refl _) (.cells #[.int .u8 0, .int .i64 0, .int .u8 0, .int .i64 0, .slice none 0 0, .int .u8 0, .int .i64 0, .slice none 0 0, .slice none 0 0, .slice none 0 0] 43))
  have hr := heap_alloc_new w (.cells #[.int .u8 0, .int .i64 0, .int .u8 0, .int .i64 0, .slice none 0 0, .int .u8 0, .int .i64 0, .slice none 0 0, .slice none 0 0, .slice none 0 0] 43)
  go_enter Tryz.func13, Tryz.ntmps13
  go_upto_region 1 with fail
  obtain ⟨W, hW⟩ : ∃ W, W = w.alloc (.cells #[.int .u8 0, .int .i64 0, .int .u8 0, .int .i64 0, .slice none 0 0, .int .u8 0, .int .i64 0, .slice none 0 0, .slice none 0 0, .slice none 0 0] 43) := ⟨_, rfl⟩
  rw [← hW] at hr HB ⊢
  clear hW
  have hc : ∀ i, W.cell? ⟨w.heap.size, i, none⟩ = (#[.int .u8 0, .int .i64 0, .int .u8 0, .int .i64 0, .slice none 0 0, .int .u8 0, .int .i64 0, .slice none 0 0, .slice none 0 0, .slice none 0 0] : Array Value)[i]? := fun i => by simp [World.cell?, hr]
  have fz : ∀ i, W.frozen? ⟨w.heap.size, i, none⟩ = false := fun i => by simp [World.frozen?, hr]
  have c0 := hc 0
  have c1 := hc 1
  have c2 := hc 2
  have c3 := hc 3
  have c4 := hc 4
  have c5 := hc 5
  have c6 := hc 6
  have c7 := hc 7
  have c8 := hc 8
  have c9 := hc 9
  simp only [List.getElem?_toArray, List.getElem?_cons_zero, List.getElem?_cons_succ] at c0 c1 c2 c3 c4 c5 c6 c7 c8 c9
  have h9 := ten_set hr (.int .u8 7) (.int .i64 0) (.int .u8 0) (.int .i64 0) (.slice none 0 0) (.int .u8 0) (.int .i64 0) (.slice none 0 0) (.slice A l c) (.slice B m d)
  have HB2 := Lib.hid (ten_low (g := w.heap.size) HB.out (by omega) (.int .u8 7) (.int .i64 0) (.int .u8 0) (.int .i64 0) (.slice none 0 0) (.int .u8 0) (.int .i64 0) (.slice none 0 0) (.slice A l c) (.slice B m d))
  have hd := fun i => cell_of_row _ (w.heap.size) i _ _ (0, 0) h9
  have HD := Lib.hid hd
  clear hc hr h9 hd
  go_wp2_with fail
  have d0 := HD.out 0
  have d1 := HD.out 1
  have d2 := HD.out 2
  have d3 := HD.out 3
  have d4 := HD.out 4
  have d5 := HD.out 5
  have d6 := HD.out 6
  have d7 := HD.out 7
  have d8 := HD.out 8
  have d9 := HD.out 9
  simp only [List.getElem?_toArray, List.getElem?_cons_zero, List.getElem?_cons_succ] at d0 d1 d2 d3 d4 d5 d6 d7 d8 d9
  exact bodyPost_ret (v := .agg #[.int .u8 7, .int .i64 0, .int .u8 0, .int .i64 0, .slice none 0 0, .int .u8 0, .int .i64 0, .slice none 0 0, .slice A l c, .slice B m d]) (by simp [results, Tryz.results13, go_sem, d0, d1, d2, d3, d4, d5, d6, d7, d8, d9]) rfl ⟨rfl, HB2.out⟩
theorem alloc_at (W : World) (cs : Array Value) (t : TypeId) {i : Nat} (h : i = W.heap.size) : (W.alloc (.cells cs t)).heap[i]? = some (.cells cs t (0, 0)) := by subst h; exact heap_alloc_new _ _
set_option maxRecDepth 100000 in
theorem jplus_any (o : Nat) (n : Int) (A : Option Addr) (l c : Nat) (o' : Nat) (n' : Int) (A' : Option Addr) (l' c' : Nat) (w : World) : Calls Tryz.prog 21 #[.agg #[.int .u8 o, .int .i64 n, .slice A l c], .agg #[.int .u8 o', .int .i64 n', .slice A' l' c']] w fun z w' => ∃ g, z = .returned (.agg #[.int .u8 4, .int .i64 0, .slice (some ⟨g, 0, none⟩) 2 2]) ∧ w.heap.size ≤ g ∧ w'.heap[g]? = some (.cells #[.int .u8 o, .int .i64 n, .slice A l c, .int .u8 o', .int .i64 n', .slice A' l' c'] 40 (0, 0)) ∧ Below w.heap.size w w' := by
  go_enter Tryz.func21, Tryz.ntmps21
  go_wp2_with fail
  refine bodyPost_ret (v := .agg #[.int .u8 4, .int .i64 0, .slice (some ⟨w.heap.size + 1 + 1 + 1, 0, none⟩) 2 2]) (by simp [results, Tryz.results21, go_sem]) rfl ⟨_, rfl, by omega, ?_, by go_grown⟩
  exact alloc_at _ _ _ (by simp)
/-- of: the closure over a box that holds the slice. -/
theorem jof_any (A : Option Addr) (l c : Nat) (w : World) : Calls Tryz.prog 17 #[.slice A l c] w fun z w' => z = .returned (.func (.func 39) #[] #[.pointer (some ⟨w.heap.size, 0, none⟩)]) ∧ w' = w.alloc (.cells #[.slice A l c] 44) := by
  go_enter Tryz.func17, Tryz.ntmps17
  go_wp2_with fail
  go_ret
  exact ⟨rfl, rfl⟩
theorem janswer_any (A : Option Addr) (l : List Int) (c hi : Nat) (v : Int) (h0 : 0 ≤ v) (w : World) (h : Ints w hi A l) : Calls Tryz.prog 40 #[.slice A l.length c, .int .i64 v] w fun z w' => z = .returned (.int .i64 (valL l v)) ∧ w' = w := by
  by_cases hlt : v < (l.length : Int)
  · obtain ⟨k, rfl⟩ : ∃ k : Nat, v = k := ⟨v.toNat, by omega⟩
    have hk : k < l.length := by omega
    obtain ⟨a, rfl, b1, hc⟩ := h.cell k hk
    have hv : valL l (k : Int) = l[k] := by unfold valL; rw [if_pos hlt]; simp [List.getD_eq_getElem?_getD, hk]
    rw [hv]
    have hk2 := h.len
    have i1 : (k : Int) < 9223372036854775807 := by omega
    obtain ⟨u, hu⟩ : ∃ u, u = l[k] := ⟨_, rfl⟩
    rw [← hu] at hc ⊢
    clear h hv hu hk2
    go_enter Tryz.func40, Tryz.ntmps40
    go_wp2_with fail
    go_ret
    exact ⟨rfl, rfl⟩
  · have hv : valL l v = v := by unfold valL; rw [if_neg hlt]
    rw [hv]
    clear h hv
    go_enter Tryz.func40, Tryz.ntmps40
    go_wp2_with fail
    go_ret
    exact ⟨rfl, rfl⟩
theorem jval_any (g : Nat) (A : Option Addr) (l : List Int) (c hi : Nat) (v : Int) (h0 : 0 ≤ v) (w : World) (hc : w.cell? ⟨g, 0, none⟩ = some (.slice A l.length c)) (h : Ints w hi A l) : Calls Tryz.prog 39 #[.int .i64 v, .pointer (some ⟨g, 0, none⟩)] w fun z w' => z = .returned (.int .i64 (valL l v)) ∧ w' = w := by
  go_enter Tryz.func39, Tryz.ntmps39
  go_wp2_with fail
  refine (janswer_any A l c hi v h0 _ h).mono ?_
  rintro e w' ⟨rfl, rfl⟩
  go_wp2_with fail
  go_ret
  exact ⟨rfl, rfl⟩
end Go.Proofs.YthdcdffdpdoeoaaGreatDoor
