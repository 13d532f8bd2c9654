/-
  NUMBERS THAT GO ROUND (layer 4's ExprRound), plain: sums and products of 64 bits. No condition.
-/
import Derived.Test.YtlalknapmnadpaaEb
namespace Go.Proofs.Ytlalknapmnadpaa
open Go.RowKit
theorem wrap_by (n : Int) : ∃ q, wrap64 n = n - 18446744073709551616 * q := ⟨(n + 9223372036854775808) / 18446744073709551616, by unfold wrap64; omega⟩
theorem wrap_off (n q : Int) : wrap64 (n - 18446744073709551616 * q) = wrap64 n := by unfold wrap64; omega
theorem wrap_add_left (a b : Int) : wrap64 (wrap64 a + b) = wrap64 (a + b) := by unfold wrap64; omega
theorem wrap_add_right (a b : Int) : wrap64 (a + wrap64 b) = wrap64 (a + b) := by unfold wrap64; omega
theorem wrap_sub_left (a b : Int) : wrap64 (wrap64 a - b) = wrap64 (a - b) := by unfold wrap64; omega
theorem wrap_mul_left (a b : Int) : wrap64 (wrap64 a * b) = wrap64 (a * b) := by
  obtain ⟨q, hq⟩ := wrap_by a
  rw [hq, Int.sub_mul, Int.mul_assoc, wrap_off]
theorem wrap_mul_right (a b : Int) : wrap64 (a * wrap64 b) = wrap64 (a * b) := by rw [Int.mul_comm, wrap_mul_left, Int.mul_comm]
theorem wrap_self (a : Int) (h0 : -9223372036854775808 ≤ a) (h1 : a < 9223372036854775808) : wrap64 a = a := by unfold wrap64; omega
theorem wrap_rng (a : Int) : -9223372036854775808 ≤ wrap64 a ∧ wrap64 a < 9223372036854775808 := by unfold wrap64; omega
theorem round_sub (a b : Int) (h0 : -9223372036854775808 ≤ a) (h1 : a < 9223372036854775808) : wrap64 (wrap64 (a + b) - b) = a := by
  rw [wrap_sub_left, Int.add_sub_cancel, wrap_self a h0 h1]
theorem round_add (a b c : Int) : wrap64 (wrap64 (a + b) + c) = wrap64 (a + wrap64 (b + c)) := by rw [wrap_add_left, wrap_add_right, Int.add_assoc]
theorem round_mul (a b c : Int) : wrap64 (wrap64 (a * b) * c) = wrap64 (a * wrap64 (b * c)) := by rw [wrap_mul_left, wrap_mul_right, Int.mul_assoc]
theorem round_over (a b c : Int) : wrap64 (a * wrap64 (b + c)) = wrap64 (wrap64 (a * b) + wrap64 (a * c)) := by rw [wrap_mul_right, wrap_add_left, wrap_add_right, Int.mul_add]
end Go.Proofs.Ytlalknapmnadpaa
