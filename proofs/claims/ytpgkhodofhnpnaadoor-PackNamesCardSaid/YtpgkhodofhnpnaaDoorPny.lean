/-
  PACKAGE pack's Decode of the empty text. Conditions: as they stand.
-/
import Derived.Test.YtpgkhodofhnpnaaDoorPnx
namespace Go.Proofs.YtpgkhodofhnpnaaDoor
set_option maxRecDepth 100000
open Go.RowKit
set_option linter.unusedVariables false
theorem unw_empty : UnwIs ⟨#[]⟩ ⟨#[]⟩ 0 8 := u_bad ⟨#[]⟩ 8 (by decide) (by decide) (by kernel_rfl)
def dpA : Nat → ByteArray
  | 0 => ⟨#[1, 10, 1, 0, 1, 1, 1, 1]⟩
  | k + 1 => dpA k ++ ⟨#[7, 1]⟩
def nsA : Nat → ByteArray
  | 0 => ⟨#[1, 10, 1, 0, 1, 1, 1, 1, 8]⟩
  | k + 1 => nsA k ++ ⟨#[4]⟩
theorem dpA_size (k : Nat) : (dpA k).size = 8 + 2 * k := by
  induction k with
  | zero => rfl
  | succ k ih => show (dpA k ++ ⟨#[7, 1]⟩).size = _; rw [ByteArray.size_append, ih]; show _ + 2 = _; omega
theorem nsA_size (k : Nat) : (nsA k).size = 9 + k := by
  induction k with
  | zero => rfl
  | succ k ih => show (nsA k ++ ⟨#[4]⟩).size = _; rw [ByteArray.size_append, ih]; show _ + 1 = _; omega
set_option maxRecDepth 100000 in
set_option maxHeartbeats 2000000 in
theorem decode_empty (w : World) : Calls Tryd.prog 11 #[.string ⟨#[]⟩] w fun e w' => e = .returned (.tuple #[.agg #[.int .i64 0, .int .i64 0, .int .i64 0, .slice none 0 0, .slice none 0 0], .int .i64 0, .int .i64 8]) ∧ Below w.heap.size w w' := by
  have HU := Lib.hid unw_empty
  go_enter Tryd.func11, Tryd.ntmps11
  go_wp2_with fail
  refine (HU.out _).mono ?_
  rintro _ w1 ⟨rfl, b1⟩
  have hb1 := Lib.hid (((Below.refl _ _).alloc (Nat.le_refl _) _ : Below w.heap.size w (w.alloc _)).trans (b1.mono (by simp)))
  have hx1 : Obj w1 w.heap.size 29 #[.int .i64 0, .int .i64 0, .int .i64 0, .slice none 0 0, .slice none 0 0] := (Obj.made w _ _).below b1 (by simp)
  have c0 := hx1.cell 0
  have c1 := hx1.cell 1
  have c2 := hx1.cell 2
  have c3 := hx1.cell 3
  have c4 := hx1.cell 4
  simp at c0 c1 c2 c3 c4
  have g4 : ∀ j, w1.frozen? ⟨w.heap.size, j, none⟩ = false := hx1.free
  have HOO := Lib.hid hx1
  have z8 := hx1.lt
  clear b1 hx1
  go_wp2_with fail
  have h5 := HOO.out.put5 (.int .i64 0) (.int .i64 0) (.int .i64 0) (.slice none 0 0) (.slice none 0 0)
  have hS := Set1.five w.heap.size w1 (.int .i64 0) (.int .i64 0) (.int .i64 0) (.slice none 0 0) (.slice none 0 0)
  have hb5 : Below w.heap.size w _ := hb1.out.trans ⟨hS.os, hS.tape, hS.output, Nat.le_of_eq hS.size.symm, fun i hi => hS.block i (by omega)⟩
  have d0 := h5.cell 0
  have d1 := h5.cell 1
  have d2 := h5.cell 2
  have d3 := h5.cell 3
  have d4 := h5.cell 4
  simp at d0 d1 d2 d3 d4
  exact bodyPost_ret (v := .tuple #[.agg #[.int .i64 0, .int .i64 0, .int .i64 0, .slice none 0 0, .slice none 0 0], .int .i64 0, .int .i64 8]) (by simp [results, Tryd.results11, go_sem, d0, d1, d2, d3, d4]) rfl ⟨rfl, hb5⟩
end Go.Proofs.YtpgkhodofhnpnaaDoor
