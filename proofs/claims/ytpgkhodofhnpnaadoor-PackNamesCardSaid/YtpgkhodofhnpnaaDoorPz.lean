/-
  STAGE 7's LAWS: works. Conditions: code's and pack's tables lie as they are laid.
-/
import Derived.Test.YtpgkhodofhnpnaaDoorPy
namespace Go.Proofs.YtpgkhodofhnpnaaDoor
set_option maxRecDepth 100000
open Go.RowKit
set_option linter.unusedVariables false
theorem su0_bytes : prSu su0 = [1, 10, 1, 0, 1, 0] := by kernel_rfl
theorem su0_body : pBody (prSu su0) (okF 14) = .ok (su0, 6) := by kernel_rfl
theorem su0_ok : okF 14 su0 = true := by kernel_rfl
theorem su0_fits : ∀ v ∈ su0.init, -9223372036854775808 ≤ v ∧ v < 9223372036854775808 := by
  intro v hv
  have : v = 5 := by simpa [su0] using hv
  omega
set_option maxRecDepth 100000 in
set_option maxHeartbeats 2000000 in
theorem works_any (w : World) (hkd : Kd w) (hpt : Pt w) : Calls Tryd.prog 5 #[] w fun e w' => e = .returned (.bool true) ∧ Below w.heap.size w w' := by
  have HBA := Lib.hid (fun w => bare_any w)
  have hlen : (prSu su0).length ≤ 30000 := by rw [su0_bytes]; decide
  have HE : Hid (∀ w1, Below w.heap.size w w1 → Calls Tryd.prog 7 #[.agg #[.int .i64 1, .int .i64 0, .int .i64 1, .slice (some ⟨w1.heap.size + 1, 0, none⟩) 1 1, .slice none 0 0]] (baW w1) fun e w' => e = .returned (.tuple #[.string (frameS (bs [1, 10, 1, 0, 1, 0])), .int .i64 0]) ∧ Below (baW w1).heap.size (baW w1) w') := fun w1 b1 => by
    have hb := b1.trans ((baW_below w1).mono b1.size)
    have := encode_yes 14 (by omega) su0 (some ⟨w1.heap.size + 1, 0, none⟩) none 1 0 _ _ (baW w1) (hkd.below hb (Nat.le_refl _)) (hpt.below hb (Nat.le_refl _)) (bare_at w1) (Nat.le_refl _) (by omega) su0_ok (by omega) su0_fits
    rw [su0_bytes] at this
    exact this
  have HBK : Hid (∀ w1, Below w.heap.size w w1 → Calls Tryd.prog 9 #[.agg #[.int .i64 1, .int .i64 0, .int .i64 1, .slice (some ⟨w1.heap.size + 1, 0, none⟩) 1 1, .slice none 0 0]] (baW w1) fun e w' => e = .returned (.bool true) ∧ Below (baW w1).heap.size (baW w1) w') := fun w1 b1 => by
    have hb := b1.trans ((baW_below w1).mono b1.size)
    exact back_any su0 (some ⟨w1.heap.size + 1, 0, none⟩) none 1 0 _ _ (baW w1) (hkd.below hb (Nat.le_refl _)) (hpt.below hb (Nat.le_refl _)) (bare_at w1) (Nat.le_refl _) su0_ok hlen su0_fits 6 su0_body
  have HFR : Hid (∀ w1, Calls Tryd.prog 8 #[.string ⟨#[1, 10, 1, 0, 1, 0]⟩] w1 fun e w' => e = .returned (.string (frameS (bs [1, 10, 1, 0, 1, 0]))) ∧ Below w1.heap.size w1 w') := fun w1 => framed_any (bs [1, 10, 1, 0, 1, 0]) (by decide) w1
  obtain ⟨F, hF⟩ : ∃ F, F = frameS (bs [1, 10, 1, 0, 1, 0]) := ⟨_, rfl⟩
  rw [← hF] at HE HFR
  have hFF : (F.toList == F.toList) = true := by simp
  clear hkd hpt hlen hF
  go_enter Tryd.func5, Tryd.ntmps5
  go_wp2_with fail
  refine (HBA.out w).mono ?_
  rintro _ w1 ⟨rfl, hw1⟩
  have H1 := Lib.hid (HE.out w (Below.refl _ _))
  rw [← hw1] at H1
  have B1 : Hid (Below w.heap.size w w1) := by show Below _ _ _; rw [hw1]; exact baW_below w
  clear hw1
  go_wp2_with fail
  refine H1.out.mono ?_
  rintro _ w2 ⟨rfl, b2⟩
  have B2 := Lib.hid (B1.out.trans (b2.mono B1.out.size))
  clear b2 H1
  go_wp2_with fail
  refine (HFR.out w2).mono ?_
  rintro _ w3 ⟨rfl, b3⟩
  have B3 := Lib.hid (B2.out.trans (b3.mono B2.out.size))
  clear b3
  go_wp2_with fail
  refine (HBA.out w3).mono ?_
  rintro _ w4 ⟨rfl, hw4⟩
  have H4 := Lib.hid (HBK.out w3 B3.out)
  rw [← hw4] at H4
  have B4 : Hid (Below w.heap.size w w4) := by show Below _ _ _; rw [hw4]; exact B3.out.trans ((baW_below w3).mono B3.out.size)
  clear hw4
  go_wp2_with fail
  refine H4.out.mono ?_
  rintro _ w5 ⟨rfl, b5⟩
  have B5 := Lib.hid (B4.out.trans (b5.mono B4.out.size))
  clear b5 H4
  go_wp2_with fail
  go_ret
  exact ⟨rfl, B5.out⟩
end Go.Proofs.YtpgkhodofhnpnaaDoor
