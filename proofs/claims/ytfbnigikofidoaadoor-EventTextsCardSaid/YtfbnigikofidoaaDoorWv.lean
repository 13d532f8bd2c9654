/-
  FOR EventNames: the texts that are refused, and the least number; region 13. Conditions: as they stand.
-/
import Derived.Test.YtfbnigikofidoaaDoorRw
import Derived.Test.YtfbnigikofidoaaDoorWg
namespace Go.Proofs.YtfbnigikofidoaaDoor
set_option maxRecDepth 100000
open Go.RowKit
set_option linter.unusedVariables false
theorem dig_step {u : Nat} (h : ¬ u < 10) : Lib.decDigits u = Lib.decDigits (u / 10) ++ [UInt8.ofNat (48 + u % 10)] := by rw [Lib.decDigits, dif_neg h]
theorem dig_max : Lib.decDigits 9223372036854775807 = [57, 50, 50, 51, 51, 55, 50, 48, 51, 54, 56, 53, 52, 55, 55, 53, 56, 48, 55] := by
  rw [dig_step (u := 9223372036854775807) (by decide), show 9223372036854775807 / 10 = 922337203685477580 from rfl]
  rw [dig_step (u := 922337203685477580) (by decide), show 922337203685477580 / 10 = 92233720368547758 from rfl]
  rw [dig_step (u := 92233720368547758) (by decide), show 92233720368547758 / 10 = 9223372036854775 from rfl]
  rw [dig_step (u := 9223372036854775) (by decide), show 9223372036854775 / 10 = 922337203685477 from rfl]
  rw [dig_step (u := 922337203685477) (by decide), show 922337203685477 / 10 = 92233720368547 from rfl]
  rw [dig_step (u := 92233720368547) (by decide), show 92233720368547 / 10 = 9223372036854 from rfl]
  rw [dig_step (u := 9223372036854) (by decide), show 9223372036854 / 10 = 922337203685 from rfl]
  rw [dig_step (u := 922337203685) (by decide), show 922337203685 / 10 = 92233720368 from rfl]
  rw [dig_step (u := 92233720368) (by decide), show 92233720368 / 10 = 9223372036 from rfl]
  rw [dig_step (u := 9223372036) (by decide), show 9223372036 / 10 = 922337203 from rfl]
  rw [dig_step (u := 922337203) (by decide), show 922337203 / 10 = 92233720 from rfl]
  rw [dig_step (u := 92233720) (by decide), show 92233720 / 10 = 9223372 from rfl]
  rw [dig_step (u := 9223372) (by decide), show 9223372 / 10 = 922337 from rfl]
  rw [dig_step (u := 922337) (by decide), show 922337 / 10 = 92233 from rfl]
  rw [dig_step (u := 92233) (by decide), show 92233 / 10 = 9223 from rfl]
  rw [dig_step (u := 9223) (by decide), show 9223 / 10 = 922 from rfl]
  rw [dig_step (u := 922) (by decide), show 922 / 10 = 92 from rfl]
  rw [dig_step (u := 92) (by decide), show 92 / 10 = 9 from rfl]
  rw [dig1 (i := 9) (by decide)]
  all_goals rfl
theorem dig_min : Lib.decDigits 9223372036854775808 = [57, 50, 50, 51, 51, 55, 50, 48, 51, 54, 56, 53, 52, 55, 55, 53, 56, 48, 56] := by
  rw [dig_step (u := 9223372036854775808) (by decide), show 9223372036854775808 / 10 = 922337203685477580 from rfl]
  rw [dig_step (u := 922337203685477580) (by decide), show 922337203685477580 / 10 = 92233720368547758 from rfl]
  rw [dig_step (u := 92233720368547758) (by decide), show 92233720368547758 / 10 = 9223372036854775 from rfl]
  rw [dig_step (u := 9223372036854775) (by decide), show 9223372036854775 / 10 = 922337203685477 from rfl]
  rw [dig_step (u := 922337203685477) (by decide), show 922337203685477 / 10 = 92233720368547 from rfl]
  rw [dig_step (u := 92233720368547) (by decide), show 92233720368547 / 10 = 9223372036854 from rfl]
  rw [dig_step (u := 9223372036854) (by decide), show 9223372036854 / 10 = 922337203685 from rfl]
  rw [dig_step (u := 922337203685) (by decide), show 922337203685 / 10 = 92233720368 from rfl]
  rw [dig_step (u := 92233720368) (by decide), show 92233720368 / 10 = 9223372036 from rfl]
  rw [dig_step (u := 9223372036) (by decide), show 9223372036 / 10 = 922337203 from rfl]
  rw [dig_step (u := 922337203) (by decide), show 922337203 / 10 = 92233720 from rfl]
  rw [dig_step (u := 92233720) (by decide), show 92233720 / 10 = 9223372 from rfl]
  rw [dig_step (u := 9223372) (by decide), show 9223372 / 10 = 922337 from rfl]
  rw [dig_step (u := 922337) (by decide), show 922337 / 10 = 92233 from rfl]
  rw [dig_step (u := 92233) (by decide), show 92233 / 10 = 9223 from rfl]
  rw [dig_step (u := 9223) (by decide), show 9223 / 10 = 922 from rfl]
  rw [dig_step (u := 922) (by decide), show 922 / 10 = 92 from rfl]
  rw [dig_step (u := 92) (by decide), show 92 / 10 = 9 from rfl]
  rw [dig1 (i := 9) (by decide)]
  all_goals rfl
theorem dig_31 : Lib.decDigits 31 = [51, 49] := by
  rw [dig_step (u := 31) (by decide), show 31 / 10 = 3 from rfl]
  rw [dig1 (i := 3) (by decide)]
  all_goals rfl
theorem itoa_max : Lib.itoa 9223372036854775807 = [57, 50, 50, 51, 51, 55, 50, 48, 51, 54, 56, 53, 52, 55, 55, 53, 56, 48, 55] := by
  unfold Lib.itoa
  rw [if_neg (by decide), show (9223372036854775807 : Int).toNat = 9223372036854775807 from rfl, dig_max]
theorem itoa_min : Lib.itoa (-9223372036854775808) = [45, 57, 50, 50, 51, 51, 55, 50, 48, 51, 54, 56, 53, 52, 55, 55, 53, 56, 48, 56] := by
  unfold Lib.itoa
  rw [if_pos (by decide), show (-9223372036854775808 : Int).natAbs = 9223372036854775808 from rfl, dig_min]
  all_goals rfl
theorem itoa_31 : Lib.itoa 31 = [51, 49] := by
  unfold Lib.itoa
  rw [if_neg (by decide), show (31 : Int).toNat = 31 from rfl, dig_31]
theorem nshow2 : showF ⟨2, 1, 0, 3, 0, 0, 0⟩ = [49, 32, 108, 111, 111, 107, 32, 51, 32, 48] := by
  show Lib.join [Lib.decDigits 1, nmL 2, Lib.itoa ((3 : Nat) : Int), Lib.itoa ((0 : Nat) : Int)] [32] = _
  rw [dig1 (by omega), itoa1 (i := 3) (by omega), itoa1 (i := 0) (by omega)]
  all_goals rfl
theorem nshow3 : showF ⟨2, 1, 0, 3, 7, 0, 0⟩ = [49, 32, 108, 111, 111, 107, 32, 51, 32, 55] := by
  show Lib.join [Lib.decDigits 1, nmL 2, Lib.itoa ((3 : Nat) : Int), Lib.itoa ((7 : Nat) : Int)] [32] = _
  rw [dig1 (by omega), itoa1 (i := 3) (by omega), itoa1 (i := 7) (by omega)]
  all_goals rfl
theorem nshow6 : showF ⟨12, 1, 0, 0, 0, 0, 0⟩ = [49, 32, 119, 97, 105, 116] := by
  show Lib.join [Lib.decDigits 1, nmL 12] [32] = _
  rw [dig1 (by omega)]
  all_goals rfl
theorem nshow11 : showF ⟨3, 1, 0, 1, 0, 9223372036854775807, 0⟩ = [49, 32, 108, 111, 97, 100, 32, 49, 32, 57, 50, 50, 51, 51, 55, 50, 48, 51, 54, 56, 53, 52, 55, 55, 53, 56, 48, 55] := by
  show Lib.join [Lib.decDigits 1, nmL 3, Lib.itoa ((1 : Nat) : Int), Lib.itoa (9223372036854775807)] [32] = _
  rw [dig1 (by omega), itoa1 (i := 1) (by omega), itoa_max]
  all_goals rfl
theorem nshow12 : showF ⟨3, 1, 0, 1, 0, 0, 0⟩ = [49, 32, 108, 111, 97, 100, 32, 49, 32, 48] := by
  show Lib.join [Lib.decDigits 1, nmL 3, Lib.itoa ((1 : Nat) : Int), Lib.itoa ((0 : Nat) : Int)] [32] = _
  rw [dig1 (by omega), itoa1 (i := 1) (by omega), itoa1 (i := 0) (by omega)]
  all_goals rfl
theorem nshow13 : showF ⟨3, 1, 0, 1, 0, 1, 0⟩ = [49, 32, 108, 111, 97, 100, 32, 49, 32, 49] := by
  show Lib.join [Lib.decDigits 1, nmL 3, Lib.itoa ((1 : Nat) : Int), Lib.itoa ((1 : Nat) : Int)] [32] = _
  rw [dig1 (by omega), itoa1 (i := 1) (by omega)]
  all_goals rfl
theorem nshow_least : showF ⟨8, 5, 0, 31, 0, -9223372036854775808, 0⟩ = [53, 32, 115, 116, 111, 114, 101, 32, 51, 49, 32, 45, 57, 50, 50, 51, 51, 55, 50, 48, 51, 54, 56, 53, 52, 55, 55, 53, 56, 48, 56] := by
  show Lib.join [Lib.decDigits 5, nmL 8, Lib.itoa (31), Lib.itoa (-9223372036854775808)] [32] = _
  rw [dig1 (by omega), itoa_31, itoa_min]
  all_goals rfl
theorem nparse0 : parseF [] = (ev0, 4) := parse_bad ⟨0, 0, 0, 0, 0, 0, 0⟩ (by kernel_rfl) (.inl (by kernel_rfl))
theorem nparse1 : parseF [49] = (ev0, 4) := parse_bad ⟨0, 0, 0, 0, 0, 0, 0⟩ (by kernel_rfl) (.inl (by kernel_rfl))
theorem nparse2 : parseF [49, 32, 108, 111, 111, 107, 32, 51] = (ev0, 4) := parse_bad ⟨2, 1, 0, 3, 0, 0, 0⟩ (by kernel_rfl) (.inr (by rw [nshow2]; decide))
theorem nparse3 : parseF [49, 32, 108, 111, 111, 107, 32, 51, 32, 55, 32, 48] = (ev0, 4) := parse_bad ⟨2, 1, 0, 3, 7, 0, 0⟩ (by kernel_rfl) (.inr (by rw [nshow3]; decide))
theorem nparse4 : parseF [55, 32, 119, 97, 105, 116] = (ev0, 4) := parse_bad ⟨12, 7, 0, 0, 0, 0, 0⟩ (by kernel_rfl) (.inl (by kernel_rfl))
theorem nparse5 : parseF [45, 49, 32, 119, 97, 105, 116] = (ev0, 4) := parse_bad ⟨12, -1, 0, 0, 0, 0, 0⟩ (by kernel_rfl) (.inl (by kernel_rfl))
theorem nparse6 : parseF [49, 32, 119, 97, 105, 116, 32] = (ev0, 4) := parse_bad ⟨12, 1, 0, 0, 0, 0, 0⟩ (by kernel_rfl) (.inr (by rw [nshow6]; decide))
theorem nparse7 : parseF [32, 49, 32, 119, 97, 105, 116] = (ev0, 4) := parse_bad ⟨0, 0, 0, 0, 0, 0, 0⟩ (by kernel_rfl) (.inl (by kernel_rfl))
theorem nparse8 : parseF [49, 32, 32, 119, 97, 105, 116] = (ev0, 4) := parse_bad ⟨0, 0, 0, 0, 0, 0, 0⟩ (by kernel_rfl) (.inl (by kernel_rfl))
theorem nparse9 : parseF [49, 32, 110, 111, 110, 101] = (ev0, 4) := parse_bad ⟨0, 0, 0, 0, 0, 0, 0⟩ (by kernel_rfl) (.inl (by kernel_rfl))
theorem nparse10 : parseF [49, 32, 108, 111, 97, 100, 32, 51, 50, 32, 49] = (ev0, 4) := parse_bad ⟨3, 1, 0, 32, 0, 1, 0⟩ (by kernel_rfl) (.inl (by kernel_rfl))
theorem nparse11 : parseF [49, 32, 108, 111, 97, 100, 32, 49, 32, 57, 50, 50, 51, 51, 55, 50, 48, 51, 54, 56, 53, 52, 55, 55, 53, 56, 48, 56] = (ev0, 4) := parse_bad ⟨3, 1, 0, 1, 0, 9223372036854775807, 0⟩ (by kernel_rfl) (.inr (by rw [nshow11]; decide))
theorem nparse12 : parseF [49, 32, 108, 111, 97, 100, 32, 49, 32, 45, 48] = (ev0, 4) := parse_bad ⟨3, 1, 0, 1, 0, 0, 0⟩ (by kernel_rfl) (.inr (by rw [nshow12]; decide))
theorem nparse13 : parseF [49, 32, 108, 111, 97, 100, 32, 49, 32, 43, 49] = (ev0, 4) := parse_bad ⟨3, 1, 0, 1, 0, 1, 0⟩ (by kernel_rfl) (.inr (by rw [nshow13]; decide))
theorem nparse14 : parseF [49, 32, 97, 98, 111, 114, 116, 32, 48, 32, 48] = (ev0, 4) := parse_bad ⟨10, 1, 0, 0, 0, 0, 0⟩ (by kernel_rfl) (.inl (by kernel_rfl))
theorem nparse15 : parseF [49, 32, 97, 98, 111, 114, 116, 32, 54, 32, 49] = (ev0, 4) := parse_bad ⟨10, 1, 0, 1, 0, 0, 6⟩ (by kernel_rfl) (.inl (by kernel_rfl))
theorem nparse16 : parseF [49, 32, 98, 101, 103, 105, 110, 32, 54, 32, 48] = (ev0, 4) := parse_bad ⟨1, 1, 6, 0, 0, 0, 0⟩ (by kernel_rfl) (.inl (by kernel_rfl))
theorem nparse_least : parseF [53, 32, 115, 116, 111, 114, 101, 32, 51, 49, 32, 45, 57, 50, 50, 51, 51, 55, 50, 48, 51, 54, 56, 53, 52, 55, 55, 53, 56, 48, 56] = (⟨8, 5, 0, 31, 0, -9223372036854775808, 0⟩, 0) := by
  have := parse_show (e := ⟨8, 5, 0, 31, 0, -9223372036854775808, 0⟩) (by kernel_rfl)
  rwa [nshow_least] at this
theorem nm_empty : bsW (nmL 0) = ⟨#[]⟩ ∧ bsW (nmL 14) = ⟨#[]⟩ := ⟨rfl, rfl⟩
section
variable {a : Act} {w : World} {K : Act → World → Prop} {Q : Exit → Act → World → Prop} {o : Oper}
end
def regN13_ds : List Nat := [117, 118, 119, 120, 121, 122]
end Go.Proofs.YtfbnigikofidoaaDoor
