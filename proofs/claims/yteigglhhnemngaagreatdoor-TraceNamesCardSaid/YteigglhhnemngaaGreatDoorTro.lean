/-
  P15.1 to P15.3: THE WALK OF TraceNames. Laid by gen/gen_tro.py. Conditions: the table of names lies.
-/
import Derived.Test.YteigglhhnemngaaGreatDoorTrl
import Derived.Test.YteigglhhnemngaaGreatDoorQ15
namespace Go.Proofs.YteigglhhnemngaaGreatDoor
set_option maxRecDepth 100000
open Go.RowKit Go.Deep
set_option linter.unusedVariables false
set_option linter.unusedSimpArgs false
theorem bad_check : (checkF 1 1 1 [⟨7, 0, 0, 0, 0, 0, 0⟩]).2 = 4 := by kernel_rfl
theorem two_check : (checkF 0 1 2 []).2 = 1 := by kernel_rfl
theorem no_frame : UnwIs ⟨#[]⟩ ⟨#[]⟩ 0 8 := u_bad ⟨#[]⟩ 8 (by decide) (by decide) (by kernel_rfl)
theorem no0 (w : World) (hek : Ek w) : Calls Tryz.prog 14 #[.string ⟨#[]⟩, .int .i64 0, .int .i64 8] w fun r w' => r = .returned (.bool true) ∧ Below w.heap.size w w' := no_any ⟨#[]⟩ 0 8 (by decide) (by kernel_rfl) (by decide) (by decide) w hek
theorem no1 (w : World) (hek : Ek w) : Calls Tryz.prog 14 #[.string ⟨#[7]⟩, .int .i64 0, .int .i64 20] w fun r w' => r = .returned (.bool true) ∧ Below w.heap.size w w' := no_any ⟨#[7]⟩ 0 20 (by decide) (by kernel_rfl) (by decide) (by decide) w hek
theorem no2 (w : World) (hek : Ek w) : Calls Tryz.prog 14 #[.string ⟨#[0, 0]⟩, .int .i64 1, .int .i64 20] w fun r w' => r = .returned (.bool true) ∧ Below w.heap.size w w' := no_any ⟨#[0, 0]⟩ 1 20 (by decide) (by kernel_rfl) (by decide) (by decide) w hek
theorem no3 (w : World) (hek : Ek w) : Calls Tryz.prog 14 #[.string ⟨#[0, 33]⟩, .int .i64 1, .int .i64 20] w fun r w' => r = .returned (.bool true) ∧ Below w.heap.size w w' := no_any ⟨#[0, 33]⟩ 1 20 (by decide) (by kernel_rfl) (by decide) (by decide) w hek
theorem no4 (w : World) (hek : Ek w) : Calls Tryz.prog 14 #[.string ⟨#[0, 2, 0]⟩, .int .i64 2, .int .i64 20] w fun r w' => r = .returned (.bool true) ∧ Below w.heap.size w w' := no_any ⟨#[0, 2, 0]⟩ 2 20 (by decide) (by kernel_rfl) (by decide) (by decide) w hek
theorem no5 (w : World) (hek : Ek w) : Calls Tryz.prog 14 #[.string ⟨#[0, 2, 3]⟩, .int .i64 2, .int .i64 20] w fun r w' => r = .returned (.bool true) ∧ Below w.heap.size w w' := no_any ⟨#[0, 2, 3]⟩ 2 20 (by decide) (by kernel_rfl) (by decide) (by decide) w hek
theorem no6 (w : World) (hek : Ek w) : Calls Tryz.prog 14 #[.string ⟨#[0, 1, 1, 1]⟩, .int .i64 3, .int .i64 20] w fun r w' => r = .returned (.bool true) ∧ Below w.heap.size w w' := no_any ⟨#[0, 1, 1, 1]⟩ 3 20 (by decide) (by kernel_rfl) (by decide) (by decide) w hek
theorem no7 (w : World) (hek : Ek w) : Calls Tryz.prog 14 #[.string ⟨#[1, 1, 1]⟩, .int .i64 3, .int .i64 8] w fun r w' => r = .returned (.bool true) ∧ Below w.heap.size w w' := no_any ⟨#[1, 1, 1]⟩ 3 8 (by decide) (by kernel_rfl) (by decide) (by decide) w hek
theorem no8f (w : World) (hek : Ek w) : Calls Tryz.prog 14 #[.string ⟨#[1, 1, 1, 129, 128, 64]⟩, .int .i64 3, .int .i64 20] w fun r w' => r = .returned (.bool true) ∧ Below w.heap.size w w' := no_any ⟨#[1, 1, 1, 129, 128, 64]⟩ 3 20 (by decide) (by kernel_rfl) (by decide) (by decide) w hek
theorem no8 (w : World) (hek : Ek w) : Calls Tryz.prog 14 #[.string (⟨#[1, 1, 1]⟩ ++ ⟨#[129, 128, 64]⟩ : ByteArray), .int .i64 3, .int .i64 20] w fun r w' => r = .returned (.bool true) ∧ Below w.heap.size w w' := by
  have h : (⟨#[1, 1, 1]⟩ ++ ⟨#[129, 128, 64]⟩ : ByteArray) = ⟨#[1, 1, 1, 129, 128, 64]⟩ := by decide
  rw [h]
  exact no8f w hek
theorem no9f (w : World) (hek : Ek w) : Calls Tryz.prog 14 #[.string ⟨#[1, 1, 1, 0, 0]⟩, .int .i64 4, .int .i64 10] w fun r w' => r = .returned (.bool true) ∧ Below w.heap.size w w' := no_any ⟨#[1, 1, 1, 0, 0]⟩ 4 10 (by decide) (by kernel_rfl) (by decide) (by decide) w hek
theorem no9 (w : World) (hek : Ek w) : Calls Tryz.prog 14 #[.string (⟨#[1, 1, 1]⟩ ++ ⟨#[0, 0]⟩ : ByteArray), .int .i64 4, .int .i64 10] w fun r w' => r = .returned (.bool true) ∧ Below w.heap.size w w' := by
  have h : (⟨#[1, 1, 1]⟩ ++ ⟨#[0, 0]⟩ : ByteArray) = ⟨#[1, 1, 1, 0, 0]⟩ := by decide
  rw [h]
  exact no9f w hek
theorem no10f (w : World) (hek : Ek w) : Calls Tryz.prog 14 #[.string ⟨#[1, 1, 1, 1, 13]⟩, .int .i64 4, .int .i64 20] w fun r w' => r = .returned (.bool true) ∧ Below w.heap.size w w' := no_any ⟨#[1, 1, 1, 1, 13]⟩ 4 20 (by decide) (by kernel_rfl) (by decide) (by decide) w hek
theorem no10 (w : World) (hek : Ek w) : Calls Tryz.prog 14 #[.string (⟨#[1, 1, 1]⟩ ++ ⟨#[1, 13]⟩ : ByteArray), .int .i64 4, .int .i64 20] w fun r w' => r = .returned (.bool true) ∧ Below w.heap.size w w' := by
  have h : (⟨#[1, 1, 1]⟩ ++ ⟨#[1, 13]⟩ : ByteArray) = ⟨#[1, 1, 1, 1, 13]⟩ := by decide
  rw [h]
  exact no10f w hek
theorem no11f (w : World) (hek : Ek w) : Calls Tryz.prog 14 #[.string ⟨#[1, 1, 1, 1, 0, 6]⟩, .int .i64 5, .int .i64 20] w fun r w' => r = .returned (.bool true) ∧ Below w.heap.size w w' := no_any ⟨#[1, 1, 1, 1, 0, 6]⟩ 5 20 (by decide) (by kernel_rfl) (by decide) (by decide) w hek
theorem no11 (w : World) (hek : Ek w) : Calls Tryz.prog 14 #[.string (⟨#[1, 1, 1]⟩ ++ ⟨#[1, 0, 6]⟩ : ByteArray), .int .i64 5, .int .i64 20] w fun r w' => r = .returned (.bool true) ∧ Below w.heap.size w w' := by
  have h : (⟨#[1, 1, 1]⟩ ++ ⟨#[1, 0, 6]⟩ : ByteArray) = ⟨#[1, 1, 1, 1, 0, 6]⟩ := by decide
  rw [h]
  exact no11f w hek
theorem no12f (w : World) (hek : Ek w) : Calls Tryz.prog 14 #[.string ⟨#[1, 1, 1, 1, 0, 1, 0]⟩, .int .i64 4, .int .i64 4] w fun r w' => r = .returned (.bool true) ∧ Below w.heap.size w w' := no_any ⟨#[1, 1, 1, 1, 0, 1, 0]⟩ 4 4 (by decide) (by kernel_rfl) (by decide) (by decide) w hek
theorem no12 (w : World) (hek : Ek w) : Calls Tryz.prog 14 #[.string (⟨#[1, 1, 1]⟩ ++ ⟨#[1, 0, 1, 0]⟩ : ByteArray), .int .i64 4, .int .i64 4] w fun r w' => r = .returned (.bool true) ∧ Below w.heap.size w w' := by
  have h : (⟨#[1, 1, 1]⟩ ++ ⟨#[1, 0, 1, 0]⟩ : ByteArray) = ⟨#[1, 1, 1, 1, 0, 1, 0]⟩ := by decide
  rw [h]
  exact no12f w hek
theorem no13f (w : World) (hek : Ek w) : Calls Tryz.prog 14 #[.string ⟨#[1, 1, 1, 1, 6, 0]⟩, .int .i64 4, .int .i64 4] w fun r w' => r = .returned (.bool true) ∧ Below w.heap.size w w' := no_any ⟨#[1, 1, 1, 1, 6, 0]⟩ 4 4 (by decide) (by kernel_rfl) (by decide) (by decide) w hek
theorem no13 (w : World) (hek : Ek w) : Calls Tryz.prog 14 #[.string (⟨#[1, 1, 1]⟩ ++ ⟨#[1, 6, 0]⟩ : ByteArray), .int .i64 4, .int .i64 4] w fun r w' => r = .returned (.bool true) ∧ Below w.heap.size w w' := by
  have h : (⟨#[1, 1, 1]⟩ ++ ⟨#[1, 6, 0]⟩ : ByteArray) = ⟨#[1, 1, 1, 1, 6, 0]⟩ := by decide
  rw [h]
  exact no13f w hek
theorem no14f (w : World) (hek : Ek w) : Calls Tryz.prog 14 #[.string ⟨#[1, 1, 1, 2, 0, 0, 0]⟩, .int .i64 7, .int .i64 8] w fun r w' => r = .returned (.bool true) ∧ Below w.heap.size w w' := no_any ⟨#[1, 1, 1, 2, 0, 0, 0]⟩ 7 8 (by decide) (by kernel_rfl) (by decide) (by decide) w hek
theorem no14 (w : World) (hek : Ek w) : Calls Tryz.prog 14 #[.string (⟨#[1, 1, 1]⟩ ++ ⟨#[2, 0, 0, 0]⟩ : ByteArray), .int .i64 7, .int .i64 8] w fun r w' => r = .returned (.bool true) ∧ Below w.heap.size w w' := by
  have h : (⟨#[1, 1, 1]⟩ ++ ⟨#[2, 0, 0, 0]⟩ : ByteArray) = ⟨#[1, 1, 1, 2, 0, 0, 0]⟩ := by decide
  rw [h]
  exact no14f w hek
theorem no15f (w : World) (hek : Ek w) : Calls Tryz.prog 14 #[.string ⟨#[1, 1, 1, 1, 0, 128, 0]⟩, .int .i64 5, .int .i64 11] w fun r w' => r = .returned (.bool true) ∧ Below w.heap.size w w' := no_any ⟨#[1, 1, 1, 1, 0, 128, 0]⟩ 5 11 (by decide) (by kernel_rfl) (by decide) (by decide) w hek
theorem no15 (w : World) (hek : Ek w) : Calls Tryz.prog 14 #[.string (⟨#[1, 1, 1]⟩ ++ ⟨#[1, 0, 128, 0]⟩ : ByteArray), .int .i64 5, .int .i64 11] w fun r w' => r = .returned (.bool true) ∧ Below w.heap.size w w' := by
  have h : (⟨#[1, 1, 1]⟩ ++ ⟨#[1, 0, 128, 0]⟩ : ByteArray) = ⟨#[1, 1, 1, 1, 0, 128, 0]⟩ := by decide
  rw [h]
  exact no15f w hek
theorem no16f (w : World) (hek : Ek w) : Calls Tryz.prog 14 #[.string ⟨#[1, 1, 1, 1, 0, 0, 0, 0]⟩, .int .i64 7, .int .i64 10] w fun r w' => r = .returned (.bool true) ∧ Below w.heap.size w w' := no_any ⟨#[1, 1, 1, 1, 0, 0, 0, 0]⟩ 7 10 (by decide) (by kernel_rfl) (by decide) (by decide) w hek
theorem no16 (w : World) (hek : Ek w) : Calls Tryz.prog 14 #[.string (⟨#[1, 1, 1]⟩ ++ ⟨#[1, 0, 0, 0, 0]⟩ : ByteArray), .int .i64 7, .int .i64 10] w fun r w' => r = .returned (.bool true) ∧ Below w.heap.size w w' := by
  have h : (⟨#[1, 1, 1]⟩ ++ ⟨#[1, 0, 0, 0, 0]⟩ : ByteArray) = ⟨#[1, 1, 1, 1, 0, 0, 0, 0]⟩ := by decide
  rw [h]
  exact no16f w hek
theorem no17f (w : World) (hek : Ek w) : Calls Tryz.prog 14 #[.string ⟨#[1, 1, 1, 2, 0, 0, 0, 6, 1]⟩, .int .i64 8, .int .i64 20] w fun r w' => r = .returned (.bool true) ∧ Below w.heap.size w w' := no_any ⟨#[1, 1, 1, 2, 0, 0, 0, 6, 1]⟩ 8 20 (by decide) (by kernel_rfl) (by decide) (by decide) w hek
theorem no17 (w : World) (hek : Ek w) : Calls Tryz.prog 14 #[.string (⟨#[1, 1, 1]⟩ ++ ⟨#[2, 0, 0, 0, 6, 1]⟩ : ByteArray), .int .i64 8, .int .i64 20] w fun r w' => r = .returned (.bool true) ∧ Below w.heap.size w w' := by
  have h : (⟨#[1, 1, 1]⟩ ++ ⟨#[2, 0, 0, 0, 6, 1]⟩ : ByteArray) = ⟨#[1, 1, 1, 2, 0, 0, 0, 6, 1]⟩ := by decide
  rw [h]
  exact no17f w hek
theorem tail_evs {w : World} {B : Nat} {A : Option Addr} {e f : Ev} (h : EvsAt w B A [e, f]) : ∃ a, A = some a ∧ EvsAt w B (some ⟨a.block, a.off + 7, none⟩) [f] := by
  obtain ⟨a, rfl, hb, hv⟩ := h 1 (Nat.lt_succ_self 1)
  refine ⟨a, rfl, fun i hi => ?_⟩
  obtain rfl : i = 0 := by have : i < 1 := hi; omega
  exact ⟨⟨a.block, a.off + 7, none⟩, rfl, hb, hv⟩
set_option maxHeartbeats 8000000 in
theorem names_walk (w : World) (hek : Ek w) : Calls Tryz.prog 3 #[] w fun r w' => r = .returned (.bool true) ∧ Below w.heap.size w w' := by
  have HW := Lib.hid (fun W (h : Ek W) => works_any W h)
  have HEK := Lib.hid hek
  have HO : Hid (∀ W, Calls Tryz.prog 11 #[] W fun r w' => (∃ A, r = .returned (.agg #[.int .i64 1, .int .i64 1, .int .i64 1, .slice A 2 2]) ∧ EvsAt w' w'.heap.size A oneL) ∧ Below W.heap.size W w') := fun W => one_any W
  have HN1 : Hid (∀ A W, Ek W → EvsAt W W.heap.size A [⟨7, 0, 0, 0, 0, 0, 0⟩] → Calls Tryz.prog 12 #[.agg #[.int .i64 1, .int .i64 1, .int .i64 1, .slice A 1 1]] W fun r w' => r = .returned (.tuple #[.string ⟨#[]⟩, .int .i64 4]) ∧ Below W.heap.size W w') := fun A W hW he => by
    have h := encode_any W hW 1 1 1 A [⟨7, 0, 0, 0, 0, 0, 0⟩] 1 ⟨by decide, by decide⟩ ⟨by decide, by decide⟩ ⟨by decide, by decide⟩ (by decide) he
    unfold encW at h
    rw [bad_check] at h
    exact h
  have HN2 : Hid (∀ W, Ek W → Calls Tryz.prog 12 #[.agg #[.int .i64 0, .int .i64 1, .int .i64 2, .slice none 0 0]] W fun r w' => r = .returned (.tuple #[.string ⟨#[]⟩, .int .i64 1]) ∧ Below W.heap.size W w') := fun W hW => by
    have h := encode_any W hW 0 1 2 none [] 0 ⟨by decide, by decide⟩ ⟨by decide, by decide⟩ ⟨by decide, by decide⟩ (by decide) (fun i hi => absurd hi (Nat.not_lt_zero _))
    unfold encW at h
    rw [two_check] at h
    exact h
  have HD : Hid (∀ W, Calls Tryz.prog 13 #[.string ⟨#[]⟩] W fun r w' => r = .returned (.tuple #[.agg #[.int .i64 0, .int .i64 0, .int .i64 0, .slice none 0 0], .int .i64 0, .int .i64 8]) ∧ Below W.heap.size W w') := fun W => decode_bad _ _ 0 8 (by decide) no_frame W
  clear hek
  go_enter Tryz.func3, Tryz.ntmps3
  go_wp2_with fail
  refine (HW.out w HEK.out).mono ?_
  rintro _ w1 ⟨rfl, b1⟩
  have B1 := Lib.hid b1
  clear b1
  go_wp2_with fail
  refine (HO.out w1).mono ?_
  rintro _ w2 ⟨⟨A, rfl, he2⟩, b2⟩
  have B2 := Lib.hid (B1.out.trans (b2.mono B1.out.size))
  obtain ⟨a, rfl, he3⟩ := tail_evs he2
  have HE3 := Lib.hid he3
  clear b2 he2 he3 B1
  go_wp2_with fail
  obtain ⟨w3, hw3⟩ : ∃ W, w2.alloc (.cells #[.int .i64 1, .int .i64 1, .int .i64 1, .slice (some ⟨a.block, a.off + 7, none⟩) 1 1] 25) = W := ⟨_, rfl⟩
  rw [hw3]
  have b3 : Below w2.heap.size w2 w3 := by rw [← hw3]; exact (Below.refl _ _).alloc (Nat.le_refl _) _
  have B3 := Lib.hid (B2.out.trans (b3.mono B2.out.size))
  refine (HN1.out _ w3 (HEK.out.below B3.out) ((HE3.out.below b3 (Nat.le_refl _)).mono b3.size)).mono ?_
  rintro _ w4 ⟨rfl, b4⟩
  have B4 := Lib.hid (B3.out.trans (b4.mono B3.out.size))
  clear b3 b4 hw3 B3 B2 HE3
  go_wp2_with fail
  refine (HN2.out w4 (HEK.out.below B4.out)).mono ?_
  rintro _ w5 ⟨rfl, b5⟩
  have B5 := Lib.hid (B4.out.trans (b5.mono B4.out.size))
  clear b5 B4
  go_wp2_with fail
  refine (HD.out w5).mono ?_
  rintro _ w6 ⟨rfl, b6⟩
  have B6 := Lib.hid (B5.out.trans (b6.mono B5.out.size))
  clear b6 B5
  go_wp2_with fail
  obtain ⟨v0, hv0⟩ : ∃ W, w6.alloc (.cells #[.int .i64 0, .int .i64 0, .int .i64 0, .slice none 0 0] 25) = W := ⟨_, rfl⟩
  rw [hv0]
  have C0 : Hid (Below w.heap.size w v0) := by rw [← hv0]; exact B6.out.alloc B6.out.size _
  clear hv0 B6
  refine (no0 v0 (HEK.out.below C0.out)).mono ?_
  rintro _ v1 ⟨rfl, b1⟩
  have C1 := Lib.hid (C0.out.trans (b1.mono C0.out.size))
  clear b1 C0
  go_wp2_with fail
  refine (no1 v1 (HEK.out.below C1.out)).mono ?_
  rintro _ v2 ⟨rfl, b2⟩
  have C2 := Lib.hid (C1.out.trans (b2.mono C1.out.size))
  clear b2 C1
  go_wp2_with fail
  refine (no2 v2 (HEK.out.below C2.out)).mono ?_
  rintro _ v3 ⟨rfl, b3⟩
  have C3 := Lib.hid (C2.out.trans (b3.mono C2.out.size))
  clear b3 C2
  go_wp2_with fail
  refine (no3 v3 (HEK.out.below C3.out)).mono ?_
  rintro _ v4 ⟨rfl, b4⟩
  have C4 := Lib.hid (C3.out.trans (b4.mono C3.out.size))
  clear b4 C3
  go_wp2_with fail
  refine (no4 v4 (HEK.out.below C4.out)).mono ?_
  rintro _ v5 ⟨rfl, b5⟩
  have C5 := Lib.hid (C4.out.trans (b5.mono C4.out.size))
  clear b5 C4
  go_wp2_with fail
  refine (no5 v5 (HEK.out.below C5.out)).mono ?_
  rintro _ v6 ⟨rfl, b6⟩
  have C6 := Lib.hid (C5.out.trans (b6.mono C5.out.size))
  clear b6 C5
  go_wp2_with fail
  refine (no6 v6 (HEK.out.below C6.out)).mono ?_
  rintro _ v7 ⟨rfl, b7⟩
  have C7 := Lib.hid (C6.out.trans (b7.mono C6.out.size))
  clear b7 C6
  go_wp2_with fail
  refine (no7 v7 (HEK.out.below C7.out)).mono ?_
  rintro _ v8 ⟨rfl, b8⟩
  have C8 := Lib.hid (C7.out.trans (b8.mono C7.out.size))
  clear b8 C7
  go_wp2_with fail
  refine (no8 v8 (HEK.out.below C8.out)).mono ?_
  rintro _ v9 ⟨rfl, b9⟩
  have C9 := Lib.hid (C8.out.trans (b9.mono C8.out.size))
  clear b9 C8
  go_wp2_with fail
  refine (no9 v9 (HEK.out.below C9.out)).mono ?_
  rintro _ v10 ⟨rfl, b10⟩
  have C10 := Lib.hid (C9.out.trans (b10.mono C9.out.size))
  clear b10 C9
  go_wp2_with fail
  refine (no10 v10 (HEK.out.below C10.out)).mono ?_
  rintro _ v11 ⟨rfl, b11⟩
  have C11 := Lib.hid (C10.out.trans (b11.mono C10.out.size))
  clear b11 C10
  go_wp2_with fail
  refine (no11 v11 (HEK.out.below C11.out)).mono ?_
  rintro _ v12 ⟨rfl, b12⟩
  have C12 := Lib.hid (C11.out.trans (b12.mono C11.out.size))
  clear b12 C11
  go_wp2_with fail
  refine (no12 v12 (HEK.out.below C12.out)).mono ?_
  rintro _ v13 ⟨rfl, b13⟩
  have C13 := Lib.hid (C12.out.trans (b13.mono C12.out.size))
  clear b13 C12
  go_wp2_with fail
  refine (no13 v13 (HEK.out.below C13.out)).mono ?_
  rintro _ v14 ⟨rfl, b14⟩
  have C14 := Lib.hid (C13.out.trans (b14.mono C13.out.size))
  clear b14 C13
  go_wp2_with fail
  refine (no14 v14 (HEK.out.below C14.out)).mono ?_
  rintro _ v15 ⟨rfl, b15⟩
  have C15 := Lib.hid (C14.out.trans (b15.mono C14.out.size))
  clear b15 C14
  go_wp2_with fail
  refine (no15 v15 (HEK.out.below C15.out)).mono ?_
  rintro _ v16 ⟨rfl, b16⟩
  have C16 := Lib.hid (C15.out.trans (b16.mono C15.out.size))
  clear b16 C15
  go_wp2_with fail
  refine (no16 v16 (HEK.out.below C16.out)).mono ?_
  rintro _ v17 ⟨rfl, b17⟩
  have C17 := Lib.hid (C16.out.trans (b17.mono C16.out.size))
  clear b17 C16
  go_wp2_with fail
  refine (no17 v17 (HEK.out.below C17.out)).mono ?_
  rintro _ v18 ⟨rfl, b18⟩
  have C18 := Lib.hid (C17.out.trans (b18.mono C17.out.size))
  clear b18 C17
  go_wp2_with fail
  go_ret
  exact ⟨rfl, C18.out⟩
end Go.Proofs.YteigglhhnemngaaGreatDoor
