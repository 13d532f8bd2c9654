/-
  VarintNames (the examples of layer 1): the examples, the greatest numbers, and what is one more, which error is met first: the closed statement holds. No condition.
-/
import Derived.Test.YtdhmehciebgblaaVw
import Derived.Test.YtdhmehciebgblaaLift
namespace Go.Proofs.Ytdhmehciebgblaa
open Go.ChangeShapes Go.WideShapes Go.ChangeAt Go.RowKit
set_option linter.unusedVariables false

theorem n_many_ff (w : World) : Calls Try.prog 8 #[.int .i64 9, .string ⟨#[255]⟩] w fun e w' => e = .returned (.string ⟨#[255, 255, 255, 255, 255, 255, 255, 255, 255]⟩) ∧ w = w' := many_c 9 255 #[255, 255, 255, 255, 255, 255, 255, 255, 255] (by kernel_rfl) w
theorem n_many_80 (w : World) : Calls Try.prog 8 #[.int .i64 9, .string ⟨#[128]⟩] w fun e w' => e = .returned (.string ⟨#[128, 128, 128, 128, 128, 128, 128, 128, 128]⟩) ∧ w = w' := many_c 9 128 #[128, 128, 128, 128, 128, 128, 128, 128, 128] (by kernel_rfl) w
theorem n_put_top (w : World) : Calls Try.prog 10 #[.int .u64 18446744073709551615] w fun e w' => e = .returned (.string ⟨#[255, 255, 255, 255, 255, 255, 255, 255, 255, 1]⟩) ∧ Below w.heap.size w w' := put_c 18446744073709551615 #[255, 255, 255, 255, 255, 255, 255, 255, 255, 1] (by kernel_rfl) w
theorem n_put_half (w : World) : Calls Try.prog 10 #[.int .u64 9223372036854775808] w fun e w' => e = .returned (.string ⟨#[128, 128, 128, 128, 128, 128, 128, 128, 128, 1]⟩) ∧ Below w.heap.size w w' := put_c 9223372036854775808 #[128, 128, 128, 128, 128, 128, 128, 128, 128, 1] (by kernel_rfl) w
theorem n_gets_top (w : World) : Calls Try.prog 11 #[.string ⟨#[255, 255, 255, 255, 255, 255, 255, 255, 255, 1, 120]⟩, .int .u64 18446744073709551615, .int .i64 10, .int .i64 0] w fun e w' => e = .returned (.bool true) ∧ w = w' := gets_c #[255, 255, 255, 255, 255, 255, 255, 255, 255, 1, 120] 18446744073709551615 10 0 (by kernel_rfl) w
theorem n_gets_range (w : World) : Calls Try.prog 11 #[.string ⟨#[255, 255, 255, 255, 255, 255, 255, 255, 255, 2]⟩, .int .u64 0, .int .i64 0, .int .i64 20] w fun e w' => e = .returned (.bool true) ∧ w = w' := gets_c #[255, 255, 255, 255, 255, 255, 255, 255, 255, 2] 0 0 20 (by kernel_rfl) w
theorem n_gets_wide (w : World) : Calls Try.prog 11 #[.string ⟨#[128, 128, 128, 128, 128, 128, 128, 128, 128, 0]⟩, .int .u64 0, .int .i64 0, .int .i64 11] w fun e w' => e = .returned (.bool true) ∧ w = w' := gets_c #[128, 128, 128, 128, 128, 128, 128, 128, 128, 0] 0 0 11 (by kernel_rfl) w
theorem n_gets_short (w : World) : Calls Try.prog 11 #[.string ⟨#[128, 128, 128, 128, 128, 128, 128, 128, 128]⟩, .int .u64 0, .int .i64 0, .int .i64 8] w fun e w' => e = .returned (.bool true) ∧ w = w' := gets_c #[128, 128, 128, 128, 128, 128, 128, 128, 128] 0 0 8 (by kernel_rfl) w
theorem n_gets_none (w : World) : Calls Try.prog 11 #[.string ⟨#[]⟩, .int .u64 0, .int .i64 0, .int .i64 8] w fun e w' => e = .returned (.bool true) ∧ w = w' := gets_c #[] 0 0 8 (by kernel_rfl) w
theorem n_gets_zero (w : World) : Calls Try.prog 11 #[.string ⟨#[0, 0]⟩, .int .u64 0, .int .i64 1, .int .i64 0] w fun e w' => e = .returned (.bool true) ∧ w = w' := gets_c #[0, 0] 0 1 0 (by kernel_rfl) w
theorem n_gets_wide2 (w : World) : Calls Try.prog 11 #[.string ⟨#[255, 0]⟩, .int .u64 0, .int .i64 0, .int .i64 11] w fun e w' => e = .returned (.bool true) ∧ w = w' := gets_c #[255, 0] 0 0 11 (by kernel_rfl) w
theorem n_zig_least (w : World) : Calls Try.prog 12 #[.int .i64 (-9223372036854775808)] w fun e w' => e = .returned (.int .u64 18446744073709551615) ∧ w = w' := zig_c (-9223372036854775808) 18446744073709551615 (by kernel_rfl) w
theorem n_zig_most (w : World) : Calls Try.prog 12 #[.int .i64 (9223372036854775807)] w fun e w' => e = .returned (.int .u64 18446744073709551614) ∧ w = w' := zig_c (9223372036854775807) 18446744073709551614 (by kernel_rfl) w
theorem n_zag (w : World) : Calls Try.prog 13 #[.int .u64 18446744073709551615] w fun e w' => e = .returned (.int .i64 (-9223372036854775808)) ∧ w = w' := zag_any 18446744073709551615 (by omega) (by omega) w

set_option maxRecDepth 100000 in
theorem VarintNames_walk (w : World) : Calls Try.prog 3 #[] w fun e w' => e = .returned (.bool true) ∧ Below w.heap.size w w' := by
  have k0 : (⟨#[255, 255, 255, 255, 255, 255, 255, 255, 255]⟩ : ByteArray) ++ (⟨#[1]⟩ : ByteArray) = (⟨#[255, 255, 255, 255, 255, 255, 255, 255, 255, 1]⟩ : ByteArray) := by kernel_rfl
  have k1 : (⟨#[255, 255, 255, 255, 255, 255, 255, 255, 255, 1]⟩ : ByteArray) ++ (⟨#[120]⟩ : ByteArray) = (⟨#[255, 255, 255, 255, 255, 255, 255, 255, 255, 1, 120]⟩ : ByteArray) := by kernel_rfl
  have k2 : (⟨#[255, 255, 255, 255, 255, 255, 255, 255, 255]⟩ : ByteArray) ++ (⟨#[2]⟩ : ByteArray) = (⟨#[255, 255, 255, 255, 255, 255, 255, 255, 255, 2]⟩ : ByteArray) := by kernel_rfl
  have k3 : (⟨#[128, 128, 128, 128, 128, 128, 128, 128, 128]⟩ : ByteArray) ++ (⟨#[0]⟩ : ByteArray) = (⟨#[128, 128, 128, 128, 128, 128, 128, 128, 128, 0]⟩ : ByteArray) := by kernel_rfl
  have k4 : (⟨#[128, 128, 128, 128, 128, 128, 128, 128, 128]⟩ : ByteArray) ++ (⟨#[1]⟩ : ByteArray) = (⟨#[128, 128, 128, 128, 128, 128, 128, 128, 128, 1]⟩ : ByteArray) := by kernel_rfl
  go_enter Try.func3, Try.ntmps3
  go_wp2_with fail
  refine (n_many_ff _).mono ?_
  rintro e w' ⟨rfl, rfl⟩
  go_wp2_with fail
  refine (works_any _).mono ?_
  rintro e w1 ⟨rfl, b1⟩
  go_wp2_with fail
  refine (n_put_top _).mono ?_
  rintro e w2 ⟨rfl, b2⟩
  go_wp2_with fail
  refine (n_gets_top _).mono ?_
  rintro e w' ⟨rfl, rfl⟩
  go_wp2_with fail
  refine (n_many_ff _).mono ?_
  rintro e w' ⟨rfl, rfl⟩
  go_wp2_with fail
  refine (n_gets_range _).mono ?_
  rintro e w' ⟨rfl, rfl⟩
  go_wp2_with fail
  refine (n_many_80 _).mono ?_
  rintro e w' ⟨rfl, rfl⟩
  go_wp2_with fail
  refine (n_gets_wide _).mono ?_
  rintro e w' ⟨rfl, rfl⟩
  go_wp2_with fail
  refine (n_many_80 _).mono ?_
  rintro e w' ⟨rfl, rfl⟩
  go_wp2_with fail
  refine (n_gets_short _).mono ?_
  rintro e w' ⟨rfl, rfl⟩
  go_wp2_with fail
  refine (n_gets_none _).mono ?_
  rintro e w' ⟨rfl, rfl⟩
  go_wp2_with fail
  refine (n_gets_zero _).mono ?_
  rintro e w' ⟨rfl, rfl⟩
  go_wp2_with fail
  refine (n_gets_wide2 _).mono ?_
  rintro e w' ⟨rfl, rfl⟩
  go_wp2_with fail
  refine (n_put_half _).mono ?_
  rintro e w3 ⟨rfl, b3⟩
  go_wp2_with fail
  refine (n_many_80 _).mono ?_
  rintro e w' ⟨rfl, rfl⟩
  go_wp2_with fail
  refine (n_zig_least _).mono ?_
  rintro e w' ⟨rfl, rfl⟩
  go_wp2_with fail
  refine (n_zig_most _).mono ?_
  rintro e w' ⟨rfl, rfl⟩
  go_wp2_with fail
  refine (n_zag _).mono ?_
  rintro e w' ⟨rfl, rfl⟩
  go_wp2_with fail
  go_ret
  exact ⟨rfl, b1.trans ((b2.mono b1.size).trans (b3.mono (Nat.le_trans b1.size b2.size)))⟩

set_option maxRecDepth 100000 in
theorem VarintNames_lifted (os : Os) (started : os.Started) (H : Type) (enc : TypeId × Value → H) :
    ReturnsInHanded {} Try.checked os 3 .any (Rows.varintNamesSpec.pre6 enc Try.prog Try.f3 Rows.varintNamesRow.domain false) (Rows.varintNamesSpec.post enc Try.prog Try.f3 false true false false) := by
  refine returnsInHanded_of_change (C := Try.checked) lift_own started (by kernel_rfl) Try.func3
    (ChangeSpec.witness6 (enc := enc) (C := Try.checked) false ⟨#[], #[], []⟩ 8 (by kernel_rfl) (by kernel_rfl) (by kernel_rfl) (by kernel_rfl)) ?_
  intro W base args ds gs before hval0 hW hcnd _
  have hval : ∀ (j : Nat) t v, Try.f3.params[j]? = some t → args[j]? = some v → Value.okWide Try.prog W .any base t v := hval0
  have hW' := hW
  obtain ⟨p, q, hA0, hV, rfl, hfz, hnd⟩ := hW
  have hA : DataW.TrodAll enc Try.prog W 0 (fun _ => true) true Try.f3.params.toList args.toList ds p := hA0
  rw [Try.params3] at hA hval
  obtain ⟨hargs, rfl, rfl⟩ := trodAll_nil hA
  obtain rfl : args = #[] := by cases args; simp_all
  obtain ⟨rfl, rfl⟩ := trodVars_none hV
  clear hA0 hval0
  simp only [List.append_nil] at hW'
  refine (VarintNames_walk  W).mono fun e W' ⟨he, hg⟩ => ?_
  subst he
  exact ⟨_, rfl, lift_post (pa := []) (pv := []) hW' (fun _ _ _ => (trodAll_cons_mk (shut_bool Try.underlying4 _) trodAll_mk0)) (fun sp _ => trodAll_mk0) (fun _ _ => rfl) rfl
    hg (ok_one (by kernel_rfl) rfl (okWide_bool_mk Try.underlying4 _))⟩

/-- THE STATEMENT of VarintNames: for every input the call returns true, and each argument reads behind it as before. -/
theorem VarintNames_holds : Rows.VarintNamesSaid :=
  OpenClaim.holds_of_wide 3 Try.f3 rfl rfl rfl rfl rfl rfl rfl ⟨rfl, rfl, rfl, rfl, rfl⟩ rfl rfl rfl rfl rfl (by kernel_rfl) Try.func3 (by kernel_rfl)
    (of_decide_eq_true (by kernel_rfl)) (by unfold Func.isWrapper; first | (rw [if_pos (by decide +kernel)]; kernel_rfl) | (rw [if_neg (by decide +kernel)]; exact ⟨rfl, rfl⟩))
    (fun os started H enc _ => VarintNames_lifted os started H enc)
end Go.Proofs.Ytdhmehciebgblaa
