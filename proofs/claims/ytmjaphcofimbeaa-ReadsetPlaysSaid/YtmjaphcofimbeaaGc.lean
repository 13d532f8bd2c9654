/-
  CONTRACT OF PACKAGE readset's Copy (layer 10). Conditions: as they stand.
-/
import Derived.Test.YtmjaphcofimbeaaGb
import Derived.Laws.Tables
import Derived.Laws.Rows
import Derived.Laws.CopyOwn
namespace Go.Proofs.Ytmjaphcofimbeaa
set_option maxRecDepth 100000
open Go.RowKit Go.Deep
set_option linter.unusedVariables false
set_option maxHeartbeats 2000000 in
theorem copy_set {w : World} {g : Nat} {rv st : Int} {f : Nat → Bool} (h : SetAt w g rv st f) : Calls Try.prog 7 #[.pointer (some ⟨g, 0, none⟩)] w fun e w' => e = .returned (.pointer (some ⟨w.heap.size, 0, none⟩)) ∧ SetAt w' w.heap.size rv st f ∧ Below w.heap.size w w' := by
  have HH := Lib.hid h
  have hgl := h.lt
  have hst : (storeCells ⟨w.heap.size, 0, none⟩ (setC rv st f).toList).run Try.prog (w.alloc (.cells #[.int .i64 0, .int .i64 0, .bool false, .bool false, .bool false, .bool false, .bool false, .bool false, .bool false, .bool false, .bool false, .bool false, .bool false, .bool false, .bool false, .bool false, .bool false, .bool false, .bool false, .bool false, .bool false, .bool false, .bool false, .bool false, .bool false, .bool false, .bool false, .bool false, .bool false, .bool false, .bool false, .bool false, .bool false, .bool false] 45)) = .ok () ((w.alloc (.cells #[.int .i64 0, .int .i64 0, .bool false, .bool false, .bool false, .bool false, .bool false, .bool false, .bool false, .bool false, .bool false, .bool false, .bool false, .bool false, .bool false, .bool false, .bool false, .bool false, .bool false, .bool false, .bool false, .bool false, .bool false, .bool false, .bool false, .bool false, .bool false, .bool false, .bool false, .bool false, .bool false, .bool false, .bool false, .bool false] 45)).setRow w.heap.size (setC rv st f)) := run_storeCells_from w.heap.size 45 (setC rv st f).toList 0 _ _ (heap_alloc_new w _) (by rfl) (fun v hv => (Array.all_eq_true_iff_forall_mem.1 (show (setC rv st f).all (·.oneCell') = true by kernel_rfl)) v (by simpa using hv))
  clear h
  go_enter Try.func7, Try.ntmps7
  go_wp2_with (first
    | (refine wpList_load_row rfl _ _ rfl g rfl 45 (setC rv st f) (0, 0) _ HH.out.row Try.underlying45 rfl (by kernel_rfl) ?_)
    | fail)
  go_ret
  exact ⟨rfl, ⟨setRow_heap _ _ _ _ _ _ (heap_alloc_new w _), HH.out.r0, HH.out.r1, HH.out.s1, HH.out.s2⟩, below_setRow ((Below.refl _ _).alloc (Nat.le_refl _) _) (Nat.le_refl _) _⟩
end Go.Proofs.Ytmjaphcofimbeaa
