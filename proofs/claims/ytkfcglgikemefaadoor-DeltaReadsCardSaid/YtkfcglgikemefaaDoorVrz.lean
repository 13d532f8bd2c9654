/-
  CONTRACTS OF seesawref01's Zig and Zag (the document's own answers), and of package varint's in the same words. Conditions: integers within their kinds.
-/
import Derived.Test.YtkfcglgikemefaaDoorVr
import Derived.Test.YtkfcglgikemefaaDoorVz
namespace Go.Proofs.YtkfcglgikemefaaDoor
set_option maxRecDepth 100000
open Go.ChangeShapes Go.WideShapes Go.ChangeAt Go.RowKit Go.ChangeMaps
set_option linter.unusedVariables false
theorem rzig_any (x : Int) (h0 : -9223372036854775808 ≤ x) (h1 : x < 9223372036854775808) (w : World) :
    Calls Tryd.prog 69 #[.int .i64 x] w fun e w' => e = .returned (.int .u64 (if x < 0 then -2 * x - 1 else 2 * x)) ∧ w = w' := by
  by_cases hx : x < 0
  · rw [if_pos hx]
    go_enter Tryd.func69, Tryd.ntmps69
    go_wp2
    go_ret
    exact ⟨by simp; omega, rfl⟩
  · rw [if_neg hx]
    go_enter Tryd.func69, Tryd.ntmps69
    go_wp2
    go_ret
    exact ⟨rfl, rfl⟩
theorem rzag_any (n : Int) (h0 : 0 ≤ n) (h1 : n ≤ 18446744073709551615) (w : World) :
    Calls Tryd.prog 74 #[.int .u64 n] w fun e w' => e = .returned (.int .i64 (if n % 2 = 0 then n / 2 else - (n / 2) - 1)) ∧ w = w' := by
  by_cases hn : n % 2 = 0
  · rw [if_pos hn]
    have e3 : (n % 2 == 0) = true := by rw [hn]; rfl
    go_enter Tryd.func74, Tryd.ntmps74
    go_wp2
    go_ret
    exact ⟨rfl, rfl⟩
  · rw [if_neg hn]
    have e3 : (n % 2 == 0) = false := by rw [show n % 2 = 1 by omega]; rfl
    go_enter Tryd.func74, Tryd.ntmps74
    go_wp2
    go_ret
    exact ⟨rfl, rfl⟩

def zigV (x : Int) : Int := if x < 0 then -2 * x - 1 else 2 * x
def zagV (n : Int) : Int := if n % 2 = 0 then n / 2 else - (n / 2) - 1
theorem zig_v (x : Int) (h0 : -9223372036854775808 ≤ x) (h1 : x < 9223372036854775808) (w : World) :
    Calls Tryd.prog 90 #[.int .i64 x] w fun e w' => e = .returned (.int .u64 (zigV x)) ∧ w = w' := zig_any x h0 h1 w
theorem zag_v (n : Int) (h0 : 0 ≤ n) (h1 : n ≤ 18446744073709551615) (w : World) :
    Calls Tryd.prog 89 #[.int .u64 n] w fun e w' => e = .returned (.int .i64 (zagV n)) ∧ w = w' := zag_any n h0 h1 w
theorem rzig_v (x : Int) (h0 : -9223372036854775808 ≤ x) (h1 : x < 9223372036854775808) (w : World) :
    Calls Tryd.prog 69 #[.int .i64 x] w fun e w' => e = .returned (.int .u64 (zigV x)) ∧ w = w' := rzig_any x h0 h1 w
theorem rzag_v (n : Int) (h0 : 0 ≤ n) (h1 : n ≤ 18446744073709551615) (w : World) :
    Calls Tryd.prog 74 #[.int .u64 n] w fun e w' => e = .returned (.int .i64 (zagV n)) ∧ w = w' := rzag_any n h0 h1 w

end Go.Proofs.YtkfcglgikemefaaDoor
