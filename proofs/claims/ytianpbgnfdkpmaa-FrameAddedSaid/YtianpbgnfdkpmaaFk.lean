/-
  make([]byte, n) AND ITS TEXT: the new block's bytes are zeros, which may be written. Condition: at most 2^30 bytes.
-/
import Derived.Test.YtianpbgnfdkpmaaFb
import Derived.Laws.MakeOwn
namespace Go.Proofs.Ytianpbgnfdkpmaa
open Go.ChangeShapes Go.WideShapes Go.ChangeAt Go.RowKit Go.ChangeMaps
set_option linter.unusedVariables false
theorem u8_info : (Try.prog.info? 5).map (fun i => (i.zero, i.size, i.bytes)) = some (some (.int .u8 0), 1, 1) := by kernel_rfl
theorem make_bytes (N : Nat) (h1 : N ≤ 1073741824) : ∃ (M : Array Value),
    (∀ W : World, (Instr.makeSlice 27 (.int .i64 N) (.int .i64 N)).run Try.prog W = .ok (.slice (some ⟨W.heap.size, 0, none⟩) N N) (W.alloc (.cells M 5))) ∧
    (∀ W : World, BRow (W.alloc (.cells M 5)) W.heap.size (List.replicate N 0)) := by
  obtain ⟨i0, hi, hz0, hz1, hz2⟩ := info_parts u8_info
  refine ⟨madeCells (Value.int .u8 0).cells (N * i0.size), fun W => ?_, fun W => ?_⟩
  · have h := run_make (P := Try.prog) W 27 5 i0 (.int .u8 0) Try.underlying27 hi hz0 .i64 .i64 (N : Int) (N : Int) (by omega) (by omega) (by rw [hz2]; omega) (by omega)
    simpa using h
  · intro j hj
    have hjN : j < N := by simpa using hj
    refine ⟨?_, by simp [go_sem]⟩
    rw [cell_new]
    have hl := toList_madeCells_one (.int .u8 0) (N * i0.size)
    have : (madeCells (Value.int .u8 0).cells (N * i0.size))[j]? = (madeCells (Value.int .u8 0).cells (N * i0.size)).toList[j]? := by simp
    rw [this]
    have hc : (Value.int IntKind.u8 0).cells = #[Value.int .u8 0] := rfl
    rw [hc, hl, hz1, Nat.mul_one, List.getElem?_replicate, if_pos hjN]
    simp
end Go.Proofs.Ytianpbgnfdkpmaa
