/-
  CONTRACTS OF PACKAGE shape: row. Laid in part by program. Conditions: as they stand.
-/
import Derived.Test.YtnkkakcnlcmikaaDoorSs
import Derived.Deep.CutBlock
import Derived.Deep.DeepCutAuto
namespace Go.Proofs.YtnkkakcnlcmikaaDoor
set_option maxRecDepth 100000
open Go.RowKit Go.Deep
set_option linter.unusedVariables false
set_option linter.unusedSimpArgs false
def placesC : Array Value := rowV 220 fun i => tabV (i / 20) (i % 20)
theorem placesC_one : placesC.all (·.oneCell') = true := by kernel_rfl
theorem zero_places (w : World) : (zeroValue 112).run Tryd.prog w = .ok (.agg (rowV 220 fun _ => .nilFunc)) w := by kernel_rfl
theorem below_setRowS {w w' : World} {B b : Nat} (h : Below B w w') (hb : B ≤ b) (row : Array Value) : Below B w (w'.setRow b row) := by
  refine ⟨h.os, h.tape, h.output, ?_, fun j hj => ?_⟩
  · simpa [World.setRow] using h.size
  · rw [setRow_other _ _ _ _ (by omega)]
    exact h.block j hj
set_option maxHeartbeats 4000000 in
theorem row_10 (wh : Nat) (hw : wh ≤ 10) (th tx pl v x y : Int) (hy : 1 ≤ y ∧ y ≤ 6) (w : World) : Calls Tryd.prog 44 #[.int .i64 (wh : Int), .agg #[.int .u8 10, .int .i64 th, .int .i64 tx, .int .i64 pl, .int .i64 v, .int .i64 x, .int .u8 y]] w fun r w' => r = .returned (tabV wh (13 + y.toNat)) ∧ Below w.heap.size w w' := by
  have hz := zero_places
  obtain ⟨k, hk⟩ : ∃ k : Nat, 13 + y = k := ⟨(13 + y).toNat, by omega⟩
  have hk19 : k ≤ 19 := by omega
  rw [show 13 + y.toNat = k by omega]
  have i0 : IntKind.u8.wrap (13 + y) = (k : Int) := by rw [hk]; simp [IntKind.wrap, IntKind.bits, IntKind.signed]; omega
  clear hk hy
  go_enter Tryd.func44, Tryd.ntmps44
  go_upto_region 5 with (first
    | (refine wpList_builtS rfl 111 (#[(1, .func 62)] : Array (Nat × Operand)) rfl (rowV 20 (tabV 0)) (by kernel_rfl) ?_)
    | (refine wpList_builtS rfl 111 (#[(2, .func 63), (4, .func 64), (7, .func 65), (12, .func 66), (14, .func 67), (15, .func 68), (17, .func 69)] : Array (Nat × Operand)) rfl (rowV 20 (tabV 1)) (by kernel_rfl) ?_)
    | (refine wpList_builtS rfl 111 (#[(3, .func 70), (16, .func 71)] : Array (Nat × Operand)) rfl (rowV 20 (tabV 2)) (by kernel_rfl) ?_)
    | (refine wpList_builtS rfl 111 (#[(4, .func 64), (5, .func 72), (17, .func 69), (19, .func 73)] : Array (Nat × Operand)) rfl (rowV 20 (tabV 3)) (by kernel_rfl) ?_)
    | (refine wpList_builtS rfl 111 (#[(6, .func 74), (7, .func 75), (18, .func 76)] : Array (Nat × Operand)) rfl (rowV 20 (tabV 4)) (by kernel_rfl) ?_)
    | (refine wpList_builtS rfl 111 (#[(8, .func 77), (9, .func 78)] : Array (Nat × Operand)) rfl (rowV 20 (tabV 5)) (by kernel_rfl) ?_)
    | (refine wpList_builtS rfl 111 (#[(9, .func 78)] : Array (Nat × Operand)) rfl (rowV 20 (tabV 6)) (by kernel_rfl) ?_)
    | (refine wpList_builtS rfl 111 (#[(11, .func 79)] : Array (Nat × Operand)) rfl (rowV 20 (tabV 7)) (by kernel_rfl) ?_)
    | (refine wpList_builtS rfl 111 (#[(11, .func 79)] : Array (Nat × Operand)) rfl (rowV 20 (tabV 8)) (by kernel_rfl) ?_)
    | (refine wpList_builtS rfl 111 (#[(13, .func 80)] : Array (Nat × Operand)) rfl (rowV 20 (tabV 9)) (by kernel_rfl) ?_)
    | (refine wpList_builtS rfl 111 (#[] : Array (Nat × Operand)) rfl (rowV 20 (tabV 10)) (by kernel_rfl) ?_)
    | (refine wpList_builtS rfl 112 _ rfl placesC (by kernel_rfl) ?_)
    | (refine wpList_store_row rfl 112 _ _ rfl (w.heap.size + 1) _ rfl rfl 112 _ (heap_alloc2_new w _ _) (by kernel_rfl) (by kernel_rfl) (by kernel_rfl) ?_)
    | fail)
  have hB : Hid (Below w.heap.size w (((w.alloc (.cells #[.int .u8 10, .int .i64 th, .int .i64 tx, .int .i64 pl, .int .i64 v, .int .i64 x, .int .u8 y] 27)).alloc (.cells (rowV 220 fun _ => .nilFunc) 112)).setRow (w.heap.size + 1) placesC)) := below_setRowS (((Below.refl _ _).alloc (Nat.le_refl _) _).alloc (by simp) _) (by omega) _
  have hR := setRow_heap ((w.alloc (.cells #[.int .u8 10, .int .i64 th, .int .i64 tx, .int .i64 pl, .int .i64 v, .int .i64 x, .int .u8 y] 27)).alloc (.cells (rowV 220 fun _ => .nilFunc) 112)) (w.heap.size + 1) _ placesC _ _ (heap_alloc2_new w _ _)
  generalize ((w.alloc (.cells #[.int .u8 10, .int .i64 th, .int .i64 tx, .int .i64 pl, .int .i64 v, .int .i64 x, .int .u8 y] 27)).alloc (.cells (rowV 220 fun _ => .nilFunc) 112)).setRow (w.heap.size + 1) placesC = W2 at hB hR ⊢
  have c1 : W2.cell? ⟨w.heap.size + 1, wh * 20 + k, none⟩ = some (tabV wh k) := by
    rw [cell_of_row W2 _ _ _ _ _ hR]
    unfold placesC
    rw [rowV_get _ _ (by omega), show (wh * 20 + k) / 20 = wh by omega, show (wh * 20 + k) % 20 = k by omega]
  have i1 : (0 : Int) ≤ (wh : Int) := by omega
  have i2 : (wh : Int) < 11 := by omega
  have i3 : (0 : Int) ≤ (k : Int) := by omega
  have i4 : (k : Int) < 20 := by omega
  clear hR hz
  go_wp2_with fail
  go_ret
  exact ⟨rfl, hB.out⟩
set_option maxHeartbeats 4000000 in
theorem row_not (wh : Nat) (hw : wh ≤ 10) (k : Nat) (hk : k ≤ 13) (hk10 : k ≠ 10) (th tx pl v x y : Int) (w : World) : Calls Tryd.prog 44 #[.int .i64 (wh : Int), .agg #[.int .u8 (k : Int), .int .i64 th, .int .i64 tx, .int .i64 pl, .int .i64 v, .int .i64 x, .int .u8 y]] w fun r w' => r = .returned (tabV wh k) ∧ Below w.heap.size w w' := by
  have hz := zero_places
  have e10 : ((k : Int) == 10) = false := beq_eq_false_iff_ne.2 (by omega)
  go_enter Tryd.func44, Tryd.ntmps44
  go_upto_region 5 with (first
    | (refine wpList_builtS rfl 111 (#[(1, .func 62)] : Array (Nat × Operand)) rfl (rowV 20 (tabV 0)) (by kernel_rfl) ?_)
    | (refine wpList_builtS rfl 111 (#[(2, .func 63), (4, .func 64), (7, .func 65), (12, .func 66), (14, .func 67), (15, .func 68), (17, .func 69)] : Array (Nat × Operand)) rfl (rowV 20 (tabV 1)) (by kernel_rfl) ?_)
    | (refine wpList_builtS rfl 111 (#[(3, .func 70), (16, .func 71)] : Array (Nat × Operand)) rfl (rowV 20 (tabV 2)) (by kernel_rfl) ?_)
    | (refine wpList_builtS rfl 111 (#[(4, .func 64), (5, .func 72), (17, .func 69), (19, .func 73)] : Array (Nat × Operand)) rfl (rowV 20 (tabV 3)) (by kernel_rfl) ?_)
    | (refine wpList_builtS rfl 111 (#[(6, .func 74), (7, .func 75), (18, .func 76)] : Array (Nat × Operand)) rfl (rowV 20 (tabV 4)) (by kernel_rfl) ?_)
    | (refine wpList_builtS rfl 111 (#[(8, .func 77), (9, .func 78)] : Array (Nat × Operand)) rfl (rowV 20 (tabV 5)) (by kernel_rfl) ?_)
    | (refine wpList_builtS rfl 111 (#[(9, .func 78)] : Array (Nat × Operand)) rfl (rowV 20 (tabV 6)) (by kernel_rfl) ?_)
    | (refine wpList_builtS rfl 111 (#[(11, .func 79)] : Array (Nat × Operand)) rfl (rowV 20 (tabV 7)) (by kernel_rfl) ?_)
    | (refine wpList_builtS rfl 111 (#[(11, .func 79)] : Array (Nat × Operand)) rfl (rowV 20 (tabV 8)) (by kernel_rfl) ?_)
    | (refine wpList_builtS rfl 111 (#[(13, .func 80)] : Array (Nat × Operand)) rfl (rowV 20 (tabV 9)) (by kernel_rfl) ?_)
    | (refine wpList_builtS rfl 111 (#[] : Array (Nat × Operand)) rfl (rowV 20 (tabV 10)) (by kernel_rfl) ?_)
    | (refine wpList_builtS rfl 112 _ rfl placesC (by kernel_rfl) ?_)
    | (refine wpList_store_row rfl 112 _ _ rfl (w.heap.size + 1) _ rfl rfl 112 _ (heap_alloc2_new w _ _) (by kernel_rfl) (by kernel_rfl) (by kernel_rfl) ?_)
    | fail)
  have hB : Hid (Below w.heap.size w (((w.alloc (.cells #[.int .u8 (k : Int), .int .i64 th, .int .i64 tx, .int .i64 pl, .int .i64 v, .int .i64 x, .int .u8 y] 27)).alloc (.cells (rowV 220 fun _ => .nilFunc) 112)).setRow (w.heap.size + 1) placesC)) := below_setRowS (((Below.refl _ _).alloc (Nat.le_refl _) _).alloc (by simp) _) (by omega) _
  have hR := setRow_heap ((w.alloc (.cells #[.int .u8 (k : Int), .int .i64 th, .int .i64 tx, .int .i64 pl, .int .i64 v, .int .i64 x, .int .u8 y] 27)).alloc (.cells (rowV 220 fun _ => .nilFunc) 112)) (w.heap.size + 1) _ placesC _ _ (heap_alloc2_new w _ _)
  generalize ((w.alloc (.cells #[.int .u8 (k : Int), .int .i64 th, .int .i64 tx, .int .i64 pl, .int .i64 v, .int .i64 x, .int .u8 y] 27)).alloc (.cells (rowV 220 fun _ => .nilFunc) 112)).setRow (w.heap.size + 1) placesC = W2 at hB hR ⊢
  have c1 : W2.cell? ⟨w.heap.size + 1, wh * 20 + k, none⟩ = some (tabV wh k) := by
    rw [cell_of_row W2 _ _ _ _ _ hR]
    unfold placesC
    rw [rowV_get _ _ (by omega), show (wh * 20 + k) / 20 = wh by omega, show (wh * 20 + k) % 20 = k by omega]
  have i1 : (0 : Int) ≤ (wh : Int) := by omega
  have i2 : (wh : Int) < 11 := by omega
  have i3 : (0 : Int) ≤ (k : Int) := by omega
  have i4 : (k : Int) < 20 := by omega
  clear hR hz
  go_wp2_with fail
  go_ret
  exact ⟨rfl, hB.out⟩
theorem rowS_any (wh : Nat) (hw : wh ≤ 10) (e : Ev) (hk : 1 ≤ e.kd ∧ e.kd ≤ 13) (hy : e.kd = 10 → 1 ≤ e.why ∧ e.why ≤ 6) (w : World) : Calls Tryd.prog 44 #[.int .i64 (wh : Int), evV e] w fun r w' => r = .returned (tabV wh (kindX e)) ∧ Below w.heap.size w w' := by
  obtain ⟨kd, th, tx, pl, v, x, y⟩ := e
  simp only at hk hy
  unfold evV kindX
  simp only
  by_cases h : kd = 10
  · subst h
    rw [if_pos rfl]
    exact row_10 wh hw th tx pl v x y (hy rfl) w
  · rw [if_neg h]
    obtain ⟨k, rfl⟩ : ∃ k : Nat, kd = k := ⟨kd.toNat, by omega⟩
    exact row_not wh hw k (by omega) (by omega) th tx pl v x y w
end Go.Proofs.YtnkkakcnlcmikaaDoor
