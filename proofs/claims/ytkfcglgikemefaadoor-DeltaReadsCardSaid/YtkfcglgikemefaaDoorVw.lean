/-
  CONTRACTS OF THE STATEMENTS' OWN HELPERS OF LAYER 1 (many, gets, works): 'works' returns true; what was in memory stays as it was. No condition.
-/
import Derived.Test.YtkfcglgikemefaaDoorVz
namespace Go.Proofs.YtkfcglgikemefaaDoor
set_option maxRecDepth 100000
open Go.RowKit
set_option linter.unusedVariables false
def rep (k : Nat) (b : UInt8) : ByteArray := ⟨(List.replicate k b).toArray⟩

theorem rep_succ (k : Nat) (b : UInt8) : rep k b ++ ⟨#[b]⟩ = rep (k + 1) b := by
  apply ByteArray.ext
  apply Array.toList_inj.1
  simp [rep, List.replicate_succ', ByteArray.data_append]

/-- Put of a number that is written out. -/
theorem put_c (x : Int) (l : Array UInt8) (h : (decide (0 ≤ x ∧ x < 18446744073709551616) && Vm.put x.toNat == l.toList) = true) (w : World) :
    Calls Tryd.prog 33 #[.int .u64 x] w fun e w' => e = .returned (.string ⟨l⟩) ∧ Below w.heap.size w w' := by
  simp only [Bool.and_eq_true, decide_eq_true_eq, beq_iff_eq] at h
  obtain ⟨⟨h0, h1⟩, h2⟩ := h
  obtain ⟨n, rfl⟩ := Int.eq_ofNat_of_zero_le h0
  refine (put_any n (by omega) w).mono fun e w' ⟨he, hb⟩ => ⟨?_, hb⟩
  rw [he]
  simp only [Int.toNat_natCast] at h2
  rw [h2]
theorem zig_c (x y : Int) (h : (decide (-9223372036854775808 ≤ x ∧ x < 9223372036854775808) && decide ((if x < 0 then -2 * x - 1 else 2 * x) = y)) = true) (w : World) :
    Calls Tryd.prog 90 #[.int .i64 x] w fun e w' => e = .returned (.int .u64 y) ∧ w = w' := by
  simp only [Bool.and_eq_true, decide_eq_true_eq] at h
  rw [← h.2]
  exact zig_any x h.1.1 h.1.2 w

theorem put_0 (w : World) : Calls Tryd.prog 33 #[.int .u64 0] w fun e w' => e = .returned (.string ⟨#[0]⟩) ∧ Below w.heap.size w w' := put_c 0 #[0] (by kernel_rfl) w
theorem put_127 (w : World) : Calls Tryd.prog 33 #[.int .u64 127] w fun e w' => e = .returned (.string ⟨#[127]⟩) ∧ Below w.heap.size w w' := put_c 127 #[127] (by kernel_rfl) w
theorem put_128 (w : World) : Calls Tryd.prog 33 #[.int .u64 128] w fun e w' => e = .returned (.string ⟨#[128, 1]⟩) ∧ Below w.heap.size w w' := put_c 128 #[128, 1] (by kernel_rfl) w
theorem put_300 (w : World) : Calls Tryd.prog 33 #[.int .u64 300] w fun e w' => e = .returned (.string ⟨#[172, 2]⟩) ∧ Below w.heap.size w w' := put_c 300 #[172, 2] (by kernel_rfl) w
theorem zig_0 (w : World) : Calls Tryd.prog 90 #[.int .i64 (0)] w fun e w' => e = .returned (.int .u64 0) ∧ w = w' := zig_c (0) 0 (by kernel_rfl) w
theorem zig_m1 (w : World) : Calls Tryd.prog 90 #[.int .i64 (-1)] w fun e w' => e = .returned (.int .u64 1) ∧ w = w' := zig_c (-1) 1 (by kernel_rfl) w
theorem zig_1 (w : World) : Calls Tryd.prog 90 #[.int .i64 (1)] w fun e w' => e = .returned (.int .u64 2) ∧ w = w' := zig_c (1) 2 (by kernel_rfl) w
theorem zig_m2 (w : World) : Calls Tryd.prog 90 #[.int .i64 (-2)] w fun e w' => e = .returned (.int .u64 3) ∧ w = w' := zig_c (-2) 3 (by kernel_rfl) w

theorem ret_bool {b : Bool} (h : b = true) : Ending.returned (.bool b) = Ending.returned (.bool true) := by rw [h]
/-- The text of a number. -/
def putS (n : Nat) : ByteArray := ⟨(Vm.put n).toArray⟩
theorem putS_size (n : Nat) : (putS n).size = (Vm.put n).length := by simp [putS, ByteArray.size]
theorem put_s (n : Nat) (hn : n < 18446744073709551616) (w : World) :
    Calls Tryd.prog 33 #[.int .u64 n] w fun e w' => e = .returned (.string (putS n)) ∧ Below w.heap.size w w' := put_any n hn w
theorem putS_list (n : Nat) : (putS n).toList = Vm.put n := by rw [ByteArray.toList_eq]; simp [putS]
end Go.Proofs.YtkfcglgikemefaaDoor
