/-
  CONTRACTS OF PACKAGE heap: unlocked, New, Copy, Same, and calls of nil. Conditions: as they stand.
-/
import Derived.Test.YtokhcogmoleocaaHc
import Derived.Test.YtokhcogmoleocaaRs
import Derived.Laws.StructEq
import Derived.Laws.Tables
import Derived.Laws.CopyOwn
namespace Go.Proofs.Ytokhcogmoleocaa
set_option maxRecDepth 100000
open Go.RowKit Go.Deep
set_option linter.unusedVariables false
/-- So many stripes that nobody owns, of which k are laid. -/
def lockF (st limit : Int) (k : Nat) : Nat → Int := fun j => if j = 0 then st else if j = 66 then limit else if 1 ≤ j ∧ j ≤ k then -1 else 0
theorem lockF_put (st limit : Int) {k : Nat} (hk : k < 32) : put (lockF st limit k) (1 + k) (-1) = lockF st limit (k + 1) := by
  funext j
  unfold put lockF
  by_cases h : j = 1 + k
  · rw [if_pos h, if_neg (by omega), if_neg (by omega), if_pos (by omega)]
  · rw [if_neg h]
    by_cases h0 : j = 0
    · rw [if_pos h0, if_pos h0]
    · rw [if_neg h0, if_neg h0]
      by_cases h1 : j = 66
      · rw [if_pos h1, if_pos h1]
      · rw [if_neg h1, if_neg h1]
        by_cases h2 : 1 ≤ j ∧ j ≤ k
        · rw [if_pos h2, if_pos (by omega)]
        · rw [if_neg h2, if_neg (by omega)]
theorem zero_locks (w : World) : (zeroValue 61).run Try.prog w = .ok (.agg (rowC 67 fun _ => 0)) w := by kernel_rfl
theorem zero_heap (w : World) : (zeroValue 64).run Try.prog w = .ok (.agg (rowC 100 fun _ => 0)) w := by kernel_rfl
set_option maxHeartbeats 4000000 in
set_option maxRecDepth 100000 in
theorem unlocked_any (st : Nat) (limit : Int) (hst : st ≤ 32) (w : World) : Calls Try.prog 45 #[.int .i64 st, .int .i64 limit] w fun e w' => e = .returned (.agg (rowC 67 (lockF st limit st))) ∧ Below w.heap.size w w' := by
  have hz := zero_locks
  go_enter Try.func45, Try.ntmps45
  go_wp2_with (first
    | (refine wpList_store_row rfl 61 _ _ rfl (w.heap.size + 1) _ rfl rfl 61 _ (heap_alloc2_new w _ _) (by kernel_rfl) (by kernel_rfl) (by kernel_rfl) ?_)
    | fail)
  have e1 : ((rowC 67 fun _ => 0).setIfInBounds 0 (.int .i64 st)).setIfInBounds 66 (.int .i64 limit) = rowC 67 (lockF st limit 0) := by
    rw [rowC_set 67 _ (by decide), rowC_set 67 _ (by decide)]
    refine rowC_congr fun j hj => ?_
    unfold put lockF
    by_cases h0 : j = 0
    · subst h0; rfl
    · by_cases h1 : j = 66
      · subst h1; rfl
      · rw [if_neg h1, if_neg h0, if_neg h0, if_neg h1, if_neg (by omega)]
  rw [e1]
  obtain ⟨W1, hW1⟩ : ∃ W1, W1 = (((w.alloc (.cells (rowC 67 fun _ => 0) 61)).alloc (.cells (rowC 67 fun _ => 0) 61)).setRow (w.heap.size + 1) (rowC 67 (lockF st limit 0))) := ⟨_, rfl⟩
  have r5 : Hid (W1.heap[w.heap.size + 1]? = some (.cells (rowC 67 (lockF st limit 0)) 61 (0, 0))) := by
    show _ = _
    rw [hW1]
    exact setRow_heap _ _ _ _ _ _ (heap_alloc2_new w _ _)
  have r4 : Hid (W1.heap[w.heap.size]? = some (.cells (rowC 67 fun _ => 0) 61 (0, 0))) := by
    show _ = _
    rw [hW1, setRow_other _ _ _ _ (by omega)]
    exact heap_alloc2_old w _ _
  have hB : Hid (Below w.heap.size w W1) := by
    show Below _ _ _
    rw [hW1]
    exact below_setRow (((Below.refl _ _).alloc (Nat.le_refl _) _).alloc (by simp) _) (by omega) _
  rw [← hW1]
  clear hW1 e1
  obtain ⟨g4, hg4⟩ : ∃ g4, g4 = w.heap.size := ⟨_, rfl⟩
  rw [← hg4] at r4 r5 ⊢
  have hgw : Hid (w.heap.size ≤ g4) := by show _ ≤ _; omega
  clear hg4
  go_loopw [6, 11] (fun a i wr => ∃ k : Nat, k ≤ st ∧ i = .int .i64 k ∧ Hid (wr.heap[g4 + 1]? = some (.cells (rowC 67 (lockF st limit k)) 61 (0, 0))) ∧ Hid (wr.heap[g4]? = some (.cells (rowC 67 fun _ => 0) 61 (0, 0))) ∧ Hid (Below w.heap.size w wr)) (fun _ i _ => st - (intOf i).toNat)
  case atStart => exact ⟨0, by omega, by go_num, r5, r4, hB⟩
  case round =>
    obtain ⟨k, hk, rfl, h5, h4, hBB⟩ := hrel
    by_cases hlt : k < st
    · have i1 : (0 : Int) ≤ (k : Int) := by omega
      have i2 : (k : Int) < (st : Int) := by omega
      have i3 : (k : Int) < 32 := by omega
      have c1 : wr.cell? ⟨g4 + 1, 1 + k, none⟩ = some (.int .i64 (lockF st limit k (1 + k))) := (cell_of_row _ _ _ _ _ _ h5.out).trans (rowC_get 67 _ (by omega))
      have f1 : wr.frozen? ⟨g4 + 1, 1 + k, none⟩ = false := frozen_of_row _ _ _ _ _ h5.out
      have H5 : Hid ((wr.setCell ⟨g4 + 1, 1 + k, none⟩ (.int .i64 (-1))).heap[g4 + 1]? = some (.cells (rowC 67 (lockF st limit (k + 1))) 61 (0, 0))) := by
        show _ = _
        rw [heap_set_same _ _ _ _ _ _ h5.out, rowC_set 67 _ (by omega), lockF_put st limit (by omega)]
      have H4 : Hid ((wr.setCell ⟨g4 + 1, 1 + k, none⟩ (.int .i64 (-1))).heap[g4]? = some (.cells (rowC 67 fun _ => 0) 61 (0, 0))) := (heap_set_other _ _ _ _ _ (by omega)).trans h4.out
      have HBN : Hid (Below w.heap.size w (wr.setCell ⟨g4 + 1, 1 + k, none⟩ (.int .i64 (-1)))) := hBB.out.setCell (p := ⟨g4 + 1, 1 + k, none⟩) (by have := hgw.out; show w.heap.size ≤ g4 + 1; omega) _
      obtain ⟨y, hy⟩ : ∃ y, y = lockF st limit k (1 + k) := ⟨_, rfl⟩
      rw [← hy] at c1
      clear hy h5 h4 hBB
      go_wp2_with fail
      go_roundw
      case rel => exact ⟨k + 1, by omega, by go_num, H5, H4, HBN⟩
      case measure => simp [intOf]; omega
    · obtain rfl : k = st := by omega
      have i2 : ¬ (k : Int) < (k : Int) := by omega
      have HE : Hid (Below w.heap.size w (wr.setRow g4 (rowC 67 (lockF k limit k)))) := below_setRow hBB.out hgw.out _
      go_wp2_with (first
        | (refine wpList_load_row rfl _ _ rfl (g4 + 1) rfl 61 (rowC 67 (lockF k limit k)) (0, 0) _ h5.out Try.underlying61 rfl (by kernel_rfl) ?_)
        | (refine wpList_store_row rfl 61 _ _ rfl g4 (rowC 67 (lockF k limit k)) rfl rfl 61 _ h4.out (by kernel_rfl) (by kernel_rfl) (rowC_one _ _) ?_)
        | fail)
      refine bodyPost_ret (results_cell_row rfl _ _ g4 61 (rowC 67 (lockF k limit k)) (0, 0) _ rfl (setRow_heap _ _ _ _ _ _ h4.out) Try.underlying61 rfl (by kernel_rfl)) rfl ?_
      exact ⟨rfl, HE.out⟩
end Go.Proofs.Ytokhcogmoleocaa
