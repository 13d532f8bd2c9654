/-
  CONTRACTS OF LAYER 1's FUNCTIONS Zig and Zag (package varint): what each call answers, in plain numbers; the memory stays as it was. Conditions: integers within their kinds.
-/
import Derived.Test.YtkfcglgikemefaaDoorVc
namespace Go.Proofs.YtkfcglgikemefaaDoor
set_option maxRecDepth 100000
open Go.RowKit
set_option linter.unusedVariables false
theorem zig_any (x : Int) (h0 : -9223372036854775808 ≤ x) (h1 : x < 9223372036854775808) (w : World) :
    Calls Tryd.prog 90 #[.int .i64 x] w fun e w' => e = .returned (.int .u64 (if x < 0 then -2 * x - 1 else 2 * x)) ∧ w = w' := by
  have e1 := Vm.i64_not_any x h0 h1
  by_cases hx : x < 0
  · rw [if_pos hx]
    have e2 := Vm.or_one (-1 - x) (by omega) (by omega)
    have e3 : IntKind.u64.wrap (-1 - x) = -1 - x := IntWalk.u64_in _ ⟨by omega, by omega⟩
    have e4 : IntKind.u64.wrap ((-1 - x) * 2) = (-1 - x) * 2 := IntWalk.u64_in _ ⟨by omega, by omega⟩
    go_enter Tryd.func90, Tryd.ntmps90
    go_wp2
    go_ret
    exact ⟨by simp; omega, rfl⟩
  · rw [if_neg hx]
    have e3 : IntKind.u64.wrap x = x := IntWalk.u64_in _ ⟨by omega, by omega⟩
    have e4 : IntKind.u64.wrap (x * 2) = x * 2 := IntWalk.u64_in _ ⟨by omega, by omega⟩
    go_enter Tryd.func90, Tryd.ntmps90
    go_wp2
    go_ret
    exact ⟨by simp; omega, rfl⟩

theorem zag_any (n : Int) (h0 : 0 ≤ n) (h1 : n ≤ 18446744073709551615) (w : World) :
    Calls Tryd.prog 89 #[.int .u64 n] w fun e w' => e = .returned (.int .i64 (if n % 2 = 0 then n / 2 else - (n / 2) - 1)) ∧ w = w' := by
  have e1 := Vm.and_one n h0 (by omega)
  have e2 := Vm.i64_not_any (n / 2) (by omega) (by omega)
  by_cases hn : n % 2 = 0
  · rw [if_pos hn]
    have e3 : (bits BinOp.and IntKind.u64 n 1 == 1) = false := by rw [e1, hn]; rfl
    clear e1 hn e2
    go_enter Tryd.func89, Tryd.ntmps89
    go_wp2
    go_ret
    exact ⟨rfl, rfl⟩
  · rw [if_neg hn]
    have e3 : (bits BinOp.and IntKind.u64 n 1 == 1) = true := by rw [e1, show n % 2 = 1 by omega]; rfl
    have E2 := e2
    clear e1 hn e2
    go_enter Tryd.func89, Tryd.ntmps89
    go_wp2
    go_ret
    exact ⟨by simp; omega, rfl⟩

end Go.Proofs.YtkfcglgikemefaaDoor
