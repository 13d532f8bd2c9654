/-
  P15.3: THE WALK OF TraceBody. Conditions: the table of names lies.
-/
import Derived.Test.YteigglhhnemngaaGreatDoorTrk
namespace Go.Proofs.YteigglhhnemngaaGreatDoor
set_option maxRecDepth 100000
open Go.RowKit Go.Deep
set_option linter.unusedVariables false
set_option linter.unusedSimpArgs false
theorem errR_nice {e : Int} (h : ErrR e) : e ≠ 9 ∧ e ≠ 40 ∧ 0 ≤ e ∧ e < 256 := by
  unfold ErrR at h
  omega
theorem size_num {T V S : Int} (h : size13 T V S = true) : 0 ≤ T ∧ T ≤ 6 ∧ 1 ≤ V ∧ V ≤ 32 ∧ 1 ≤ S ∧ S ≤ 32 := by
  unfold size13 at h
  simp only [Bool.and_eq_true, decide_eq_true_eq] at h
  omega
theorem body_long (b : ByteArray) (hb : 20000 < b.size) (h64 : b.size ≤ 9223372036854775807) (w : World) (hek : Ek w) : Calls Tryz.prog 6 #[.string b] w fun r w' => r = .returned (.bool true) ∧ Below w.heap.size w w' := by
  have HW := Lib.hid (fun W (h : Ek W) => works_any W h)
  have HEK := Lib.hid hek
  clear hek
  go_enter Tryz.func6, Tryz.ntmps6
  go_wp2_with fail
  refine (HW.out w HEK.out).mono ?_
  rintro _ w1 ⟨rfl, b1⟩
  go_wp2_with fail
  refine (HW.out w1 (HEK.out.below b1)).mono ?_
  rintro _ w2 ⟨rfl, b2⟩
  go_wp2_with fail
  go_ret
  exact ⟨rfl, b1.trans (b2.mono b1.size)⟩
theorem body_bad (b : ByteArray) (hb : b.size ≤ 20000) (hwr : (wrR b).2 ≠ 0) (w : World) (hek : Ek w) : Calls Tryz.prog 6 #[.string b] w fun r w' => r = .returned (.bool true) ∧ Below w.heap.size w w' := by
  have HW := Lib.hid (fun W (h : Ek W) => works_any W h)
  have HEK := Lib.hid hek
  obtain ⟨S, hS⟩ : ∃ S, S = frameS b := ⟨_, rfl⟩
  have hfs := frame_size b
  have hns := numS_le b.size
  rw [← hS] at hfs
  have hnp : b.size + 4 ≤ S.size ∧ S.size ≤ 16777216 := by omega
  have HF0 : Hid (∀ W, Calls Tryz.prog 21 #[.string b] W fun e w' => e = .returned (.string S) ∧ Below W.heap.size W w') := fun W => by
    rw [hS]; exact framedT b (by omega) W
  have HD : Hid (∀ W, Ek W → Calls Tryz.prog 13 #[.string S] W fun r w' => r = .returned (.tuple #[.agg #[.int .i64 0, .int .i64 0, .int .i64 0, .slice none 0 0], .int .i64 ((S.size - b.size - 4 + (wrR b).1 : Nat) : Int), .int .i64 (wrR b).2]) ∧ Below W.heap.size W w') := fun W hW => 
    decode_wrong S b (by rw [hS]; exact frame_back b (by rw [← hS]; omega)) (by omega) hnp hwr W hW
  obtain ⟨hp, hE⟩ := wrR_ok b
  obtain ⟨g1, g2, g3, g4⟩ := errR_nice hE
  obtain ⟨e, hee⟩ : ∃ e, e = (wrR b).2 := ⟨_, rfl⟩
  obtain ⟨p, hpp⟩ : ∃ p, p = (wrR b).1 := ⟨_, rfl⟩
  rw [← hee, ← hpp] at HD
  rw [← hee] at hwr g1 g2 g3 g4
  rw [← hpp] at hp
  clear hek hS hfs hns hE hee hpp
  go_enter Tryz.func6, Tryz.ntmps6
  go_wp2_with fail
  refine (HW.out w HEK.out).mono ?_
  rintro _ w1 ⟨rfl, b1⟩
  go_wp2_with fail
  refine (HF0.out w1).mono ?_
  rintro _ w2 ⟨rfl, b2⟩
  go_wp2_with fail
  refine (HD.out w2 ((HEK.out.below b1).below b2)).mono ?_
  rintro _ w3 ⟨rfl, b3⟩
  go_wp2_with fail
  go_ret
  have bb := (b1.trans (b2.mono b1.size)).trans (b3.mono (b1.trans (b2.mono b1.size)).size)
  refine ⟨?_, bb.alloc bb.size _⟩
  show Ending.returned (.bool (e != 9 && e != 40)) = _
  rw [show (e != 9 && e != 40) = true by simp [g1, g2]]
theorem body_good (b : ByteArray) (hb : b.size ≤ 20000) (hwr : (wrR b).2 = 0) (w : World) (hek : Ek w) : Calls Tryz.prog 6 #[.string b] w fun r w' => r = .returned (.bool true) ∧ Below w.heap.size w w' := by
  have HW := Lib.hid (fun W (h : Ek W) => works_any W h)
  have HEK := Lib.hid hek
  obtain ⟨S, hS⟩ : ∃ S, S = frameS b := ⟨_, rfl⟩
  have hfs := frame_size b
  have hns := numS_le b.size
  rw [← hS] at hfs
  have hnp : b.size + 4 ≤ S.size ∧ S.size ≤ 16777216 := by omega
  have HF0 : Hid (∀ W, Calls Tryz.prog 21 #[.string b] W fun e w' => e = .returned (.string S) ∧ Below W.heap.size W w') := fun W => by
    rw [hS]; exact framedT b (by omega) W
  obtain ⟨k1, k2, k3, k4, k5, k6, k7⟩ := wrR_back b hwr
  obtain ⟨T, hT⟩ : ∃ x, x = (z1 b).1 := ⟨_, rfl⟩
  obtain ⟨V, hV⟩ : ∃ x, x = (z2 b).1 := ⟨_, rfl⟩
  obtain ⟨X, hX⟩ : ∃ x, x = (z3 b).1 := ⟨_, rfl⟩
  obtain ⟨L, hL⟩ : ∃ x, x = (evsS b).1 := ⟨_, rfl⟩
  have HD : Hid (∀ W, Ek W → Calls Tryz.prog 13 #[.string S] W fun r w' => (∃ A c, r = .returned (.tuple #[.agg #[.int .i64 T, .int .i64 V, .int .i64 X, .slice A L.length c], .int .i64 0, .int .i64 0]) ∧ EvsAt w' w'.heap.size A L) ∧ Below W.heap.size W w') := fun W hW => by
    rw [hT, hV, hX, hL]
    exact decode_ok S b (by rw [hS]; exact frame_back b (by rw [← hS]; omega)) (by omega) hnp hwr W hW
  rw [← hT, ← hV, ← hX] at k1 k3 k5
  rw [← hL] at k2 k3 k4 k5
  have hck : (checkF T V X L).2 = 0 := by rw [fine_iff.2 ⟨k1, k2, k3⟩]
  have hbl := body_len k1 k3 k4
  have hbz : b.size = (bodyB T V X L).length := by rw [k5, bs_size]
  have hsz := size_num k1
  have HEN : Hid (∀ A c W, Ek W → EvsAt W W.heap.size A L → Calls Tryz.prog 12 #[.agg #[.int .i64 T, .int .i64 V, .int .i64 X, .slice A L.length c]] W fun r w' => r = .returned (.tuple #[.string S, .int .i64 0]) ∧ Below W.heap.size W w') := fun A c W hW he => by
    have h := encode_any W hW T V X A L c ⟨by omega, by omega⟩ ⟨by omega, by omega⟩ ⟨by omega, by omega⟩ (by omega) he
    unfold encW at h
    rw [hck, if_pos rfl, ← k5, ← hS] at h
    exact h
  obtain ⟨n, hn⟩ : ∃ n, n = L.length := ⟨_, rfl⟩
  rw [← hn] at HD HEN
  clear hek hS hfs hns hT hV hX hL k1 k2 k3 k4 k5 k6 k7 hck hbl hbz hn hwr hsz
  go_enter Tryz.func6, Tryz.ntmps6
  go_wp2_with fail
  refine (HW.out w HEK.out).mono ?_
  rintro _ w1 ⟨rfl, b1⟩
  go_wp2_with fail
  refine (HF0.out w1).mono ?_
  rintro _ w2 ⟨rfl, b2⟩
  go_wp2_with fail
  refine (HD.out w2 ((HEK.out.below b1).below b2)).mono ?_
  rintro _ w3 ⟨⟨A, c, rfl, he⟩, b3⟩
  have B3 := (b1.trans (b2.mono b1.size)).trans (b3.mono (b1.trans (b2.mono b1.size)).size)
  have HE := Lib.hid he
  clear he
  go_wp2_with fail
  obtain ⟨w4, hw4⟩ : ∃ W, w3.alloc (.cells #[.int .i64 T, .int .i64 V, .int .i64 X, .slice A n c] 25) = W := ⟨_, rfl⟩
  rw [hw4]
  have b4 : Below w3.heap.size w3 w4 := by rw [← hw4]; exact (Below.refl _ _).alloc (Nat.le_refl _) _
  have B4 := B3.trans (b4.mono B3.size)
  refine (HEN.out A c w4 (HEK.out.below B4) ((HE.out.below b4 (Nat.le_refl _)).mono b4.size)).mono ?_
  rintro _ w5 ⟨rfl, b5⟩
  go_wp2_with fail
  go_ret
  exact ⟨rfl, B4.trans (b5.mono B4.size)⟩
theorem body_walk (w : World) (hek : Ek w) (b : ByteArray) (h64 : b.size ≤ 9223372036854775807) : Calls Tryz.prog 6 #[.string b] w fun r w' => r = .returned (.bool true) ∧ Below w.heap.size w w' := by
  by_cases hb : 20000 < b.size
  · exact body_long b hb h64 w hek
  · by_cases hwr : (wrR b).2 = 0
    · exact body_good b (by omega) hwr w hek
    · exact body_bad b (by omega) hwr w hek
end Go.Proofs.YteigglhhnemngaaGreatDoor
