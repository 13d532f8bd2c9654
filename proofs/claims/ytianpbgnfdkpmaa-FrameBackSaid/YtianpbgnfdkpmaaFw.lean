/-
  CONTRACTS OF THE STATEMENTS' OWN HELPERS OF LAYER 3 (works, back, no): each returns true where the frame's contract says so; what was in memory stays as it was. Conditions: as they stand.
-/
import Derived.Test.YtianpbgnfdkpmaaFx
namespace Go.Proofs.Ytianpbgnfdkpmaa
open Go.ChangeShapes Go.WideShapes Go.ChangeAt Go.RowKit Go.ChangeMaps
set_option linter.unusedVariables false

theorem empty_frame : frameS ⟨#[]⟩ = ⟨#[0, 141, 239, 2, 210]⟩ := by kernel_rfl
theorem empty_sum : Fm.sum (nats ⟨#[]⟩) = 0 := by kernel_rfl
theorem digits_sum : Fm.sum (nats ⟨#[49, 50, 51, 52, 53, 54, 55, 56, 57]⟩) = 3421780262 := by kernel_rfl
theorem wrap_empty (w : World) : Calls Try.prog 8 #[.string ⟨#[]⟩] w fun e w' => e = .returned (.tuple #[.string ⟨#[0, 141, 239, 2, 210]⟩, .int .i64 0]) ∧ Below w.heap.size w w' := by
  have h := wrap_any ⟨#[]⟩ (by decide) w
  rw [empty_frame] at h
  exact h
theorem sum_empty (w : World) : Calls Try.prog 13 #[.string ⟨#[]⟩] w fun e w' => e = .returned (.int .u32 0) ∧ Below w.heap.size w w' := by
  have h := Sum_any ⟨#[]⟩ (by decide) w
  rw [empty_sum] at h
  exact h
theorem sum_digits (w : World) : Calls Try.prog 13 #[.string ⟨#[49, 50, 51, 52, 53, 54, 55, 56, 57]⟩] w fun e w' => e = .returned (.int .u32 3421780262) ∧ Below w.heap.size w w' := by
  have h := Sum_any ⟨#[49, 50, 51, 52, 53, 54, 55, 56, 57]⟩ (by decide) w
  rw [digits_sum] at h
  exact h
theorem ret_bool {a b : Bool} (h : a = b) : Ending.returned (.bool a) = .returned (.bool b) := by rw [h]

set_option maxRecDepth 100000 in
theorem works_any (w : World) : Calls Try.prog 9 #[] w fun e w' => e = .returned (.bool true) ∧ Below w.heap.size w w' := by
  go_enter Try.func9, Try.ntmps9
  go_wp2_with fail
  refine (wrap_empty _).mono ?_
  rintro e w1 ⟨rfl, b1⟩
  go_wp2_with fail
  refine (sum_empty _).mono ?_
  rintro e w2 ⟨rfl, b2⟩
  go_wp2_with fail
  refine (sum_digits _).mono ?_
  rintro e w3 ⟨rfl, b3⟩
  have b12 := b1.trans (b2.mono b1.size)
  have b13 := b12.trans (b3.mono b12.size)
  go_wp2_with fail
  go_ret
  exact ⟨rfl, b13⟩

set_option maxRecDepth 100000 in
theorem no_yes (s : ByteArray) (place e : Nat) (h : UnwIs s ⟨#[]⟩ place e) (w : World) :
    Calls Try.prog 11 #[.string s, .int .i64 place, .int .i64 e] w fun e w' => e = .returned (.bool true) ∧ Below w.heap.size w w' := by
  have H := Lib.hid h
  clear h
  go_enter Try.func11, Try.ntmps11
  go_wp2_with fail
  refine (H.out w).mono ?_
  rintro r w1 ⟨rfl, b1⟩
  go_wp2_with fail
  go_ret
  exact ⟨ret_bool (by simp), b1⟩

set_option maxRecDepth 100000 in
theorem back_yes (b : ByteArray) (h : b.size + (numS b.size).size + 4 ≤ 16777216) (w : World) :
    Calls Try.prog 10 #[.string b] w fun e w' => e = .returned (.bool true) ∧ Below w.heap.size w w' := by
  have H := Lib.hid (frame_back b (by rw [frame_size]; omega))
  have HW := Lib.hid (wrap_any b h w)
  clear h
  go_enter Try.func10, Try.ntmps10
  go_wp2_with fail
  refine HW.out.mono ?_
  rintro r w1 ⟨rfl, b1⟩
  go_wp2_with fail
  refine (H.out w1).mono ?_
  rintro r w2 ⟨rfl, b2⟩
  go_wp2_with fail
  go_ret
  exact ⟨ret_bool (by simp), b1.trans (b2.mono b1.size)⟩
end Go.Proofs.Ytianpbgnfdkpmaa
