/-
  FOR THE LAWS OF LAYER 15: one, works, no. Conditions: the table of names lies.
-/
import Derived.Test.YteigglhhnemngaaGreatDoorTrj
namespace Go.Proofs.YteigglhhnemngaaGreatDoor
set_option maxRecDepth 100000
open Go.RowKit Go.Deep
set_option linter.unusedVariables false
set_option linter.unusedSimpArgs false
def oneL : List Ev := [⟨1, 0, 0, 0, 0, 0, 0⟩, ⟨7, 0, 0, 0, 0, 0, 0⟩]
theorem one_check : (checkF 1 1 1 oneL).2 = 0 := by kernel_rfl
theorem none_check : (checkF 0 1 1 []).2 = 0 := by kernel_rfl
theorem one_body : bodyB 1 1 1 oneL = [1, 1, 1, 2, 0, 0, 0, 6, 0] := by kernel_rfl
theorem none_body : bodyB 0 1 1 [] = [0, 1, 1, 0] := by kernel_rfl
theorem one_oks : ∀ e ∈ oneL, EvOk e := fun e he => by
  simp only [oneL, List.mem_cons, List.mem_nil_iff, or_false] at he
  obtain rfl | rfl := he
  · exact ⟨by decide, by decide, by decide, by decide, by decide, by decide, by decide, by decide, by decide, by decide, by decide, by decide, by decide, by decide⟩
  · exact ⟨by decide, by decide, by decide, by decide, by decide, by decide, by decide, by decide, by decide, by decide, by decide, by decide, by decide, by decide⟩
theorem one_any (w : World) : Calls Tryz.prog 11 #[] w fun r w' => (∃ A, r = .returned (trV 1 1 1 A 2 2) ∧ EvsAt w' w'.heap.size A oneL) ∧ Below w.heap.size w w' := by
  go_enter Tryz.func11, Tryz.ntmps11
  go_wp2_with fail
  obtain ⟨w1, hw1⟩ : ∃ W, w.alloc (.cells #[.int .i64 1, .int .i64 1, .int .i64 1, .slice (some ⟨w.heap.size + 1, 0, none⟩) 2 2] 25) = W := ⟨_, rfl⟩
  have b1 : Below w.heap.size w w1 := by rw [← hw1]; exact (Below.refl _ _).alloc (Nat.le_refl _) _
  have r1 : w1.heap[w.heap.size]? = some (.cells #[.int .i64 1, .int .i64 1, .int .i64 1, .slice (some ⟨w.heap.size + 1, 0, none⟩) 2 2] 25 (0, 0)) := by rw [← hw1]; exact heap_alloc_new w _
  have hz : w1.heap.size = w.heap.size + 1 := by rw [← hw1]; exact Array.size_push _
  rw [hw1]
  obtain ⟨w2, hw2⟩ : ∃ W, w1.alloc (.cells (evsC oneL).toArray 50) = W := ⟨_, rfl⟩
  have b2 : Below w1.heap.size w1 w2 := by rw [← hw2]; exact (Below.refl _ _).alloc (Nat.le_refl _) _
  have r2 := row_stays r1 b2
  have e2 : w2.heap[w1.heap.size]? = some (.cells (evsC oneL).toArray 50 (0, 0)) := by rw [← hw2]; exact heap_alloc_new w1 _
  have hlt : w1.heap.size < w2.heap.size := (Array.getElem?_eq_some_iff.1 e2).1
  have hw3 : w1.alloc (.cells #[.int .u8 1, .int .i64 0, .int .i64 0, .int .i64 0, .int .i64 0, .int .i64 0, .int .u8 0, .int .u8 7, .int .i64 0, .int .i64 0, .int .i64 0, .int .i64 0, .int .i64 0, .int .u8 0] 50) = w2 := hw2
  rw [hw3]
  have E2 := EvsAt.row e2 hlt one_oks
  rw [hz] at E2
  refine bodyPost_ret (results_cell_row rfl _ _ w.heap.size 25 _ (0, 0) _ rfl r2 Tryz.underlying25 rfl (by kernel_rfl)) rfl ?_
  exact ⟨⟨_, rfl, E2⟩, b1.trans (b2.mono b1.size)⟩
theorem enc_none : encW 0 1 1 [] = frameS (bs [0, 1, 1, 0]) := by
  unfold encW
  rw [if_pos none_check, none_body]
theorem enc_one : encW 1 1 1 oneL = frameS (bs [1, 1, 1, 2, 0, 0, 0, 6, 0]) := by
  unfold encW
  rw [if_pos one_check, one_body]
theorem works_any (w : World) (hek : Ek w) : Calls Tryz.prog 10 #[] w fun r w' => r = .returned (.bool true) ∧ Below w.heap.size w w' := by
  obtain ⟨E0, hE0⟩ : ∃ E, E = frameS (bs [0, 1, 1, 0]) := ⟨_, rfl⟩
  obtain ⟨E1, hE1⟩ : ∃ E, E = frameS (bs [1, 1, 1, 2, 0, 0, 0, 6, 0]) := ⟨_, rfl⟩
  have HF0 : Hid (∀ W, Calls Tryz.prog 21 #[.string ⟨#[0, 1, 1, 0]⟩] W fun e w' => e = .returned (.string E0) ∧ Below W.heap.size W w') := fun W => by
    rw [hE0]; exact framedT (bs [0, 1, 1, 0]) (by decide) W
  have HF1 : Hid (∀ W, Calls Tryz.prog 21 #[.string ⟨#[1, 1, 1, 2, 0, 0, 0, 6, 0]⟩] W fun e w' => e = .returned (.string E1) ∧ Below W.heap.size W w') := fun W => by
    rw [hE1]; exact framedT (bs [1, 1, 1, 2, 0, 0, 0, 6, 0]) (by decide) W
  have no_evs : ∀ W : World, EvsAt W W.heap.size none [] := fun W i hi => absurd hi (Nat.not_lt_zero _)
  have HN0 : Hid (∀ W, Ek W → Calls Tryz.prog 12 #[.agg #[.int .i64 0, .int .i64 1, .int .i64 1, .slice none 0 0]] W fun r w' => r = .returned (.tuple #[.string E0, .int .i64 0]) ∧ Below W.heap.size W w') := fun W hW => by
    have h := encode_any W hW 0 1 1 none [] 0 ⟨by decide, by decide⟩ ⟨by decide, by decide⟩ ⟨by decide, by decide⟩ (by decide) (no_evs W)
    rw [none_check, enc_none, ← hE0] at h
    exact h
  have HN1 : Hid (∀ A W, Ek W → EvsAt W W.heap.size A oneL → Calls Tryz.prog 12 #[.agg #[.int .i64 1, .int .i64 1, .int .i64 1, .slice A 2 2]] W fun r w' => r = .returned (.tuple #[.string E1, .int .i64 0]) ∧ Below W.heap.size W w') := fun A W hW he => by
    have h := encode_any W hW 1 1 1 A oneL 2 ⟨by decide, by decide⟩ ⟨by decide, by decide⟩ ⟨by decide, by decide⟩ (by decide) he
    rw [one_check, enc_one, ← hE1] at h
    exact h
  have HB0 : Hid (∀ W, Ek W → Calls Tryz.prog 20 #[.agg #[.int .i64 0, .int .i64 1, .int .i64 1, .slice none 0 0]] W fun r w' => r = .returned (.bool true) ∧ Below W.heap.size W w') := fun W hW =>
    back_yes (L := []) (c := 0) none_check ⟨by decide, by decide⟩ ⟨by decide, by decide⟩ ⟨by decide, by decide⟩ (by decide) W hW (no_evs W)
  have HB1 : Hid (∀ A W, Ek W → EvsAt W W.heap.size A oneL → Calls Tryz.prog 20 #[.agg #[.int .i64 1, .int .i64 1, .int .i64 1, .slice A 2 2]] W fun r w' => r = .returned (.bool true) ∧ Below W.heap.size W w') := fun A W hW he =>
    back_yes (L := oneL) (c := 2) one_check ⟨by decide, by decide⟩ ⟨by decide, by decide⟩ ⟨by decide, by decide⟩ (by decide) W hW he
  have HO : Hid (∀ W, Calls Tryz.prog 11 #[] W fun r w' => (∃ A, r = .returned (.agg #[.int .i64 1, .int .i64 1, .int .i64 1, .slice A 2 2]) ∧ EvsAt w' w'.heap.size A oneL) ∧ Below W.heap.size W w') := fun W => one_any W
  obtain ⟨w1, hw1⟩ : ∃ W, w.alloc (.cells #[.int .i64 0, .int .i64 1, .int .i64 1, .slice none 0 0] 25) = W := ⟨_, rfl⟩
  have b1 : Below w.heap.size w w1 := by rw [← hw1]; exact (Below.refl _ _).alloc (Nat.le_refl _) _
  have r1 : w1.heap[w.heap.size]? = some (.cells #[.int .i64 0, .int .i64 1, .int .i64 1, .slice none 0 0] 25 (0, 0)) := by rw [← hw1]; exact heap_alloc_new w _
  have HEK := Lib.hid hek
  have HW1 := Lib.hid hw1
  have B1 := Lib.hid b1
  have R1 := Lib.hid r1
  clear hw1 b1 r1 hE0 hE1 no_evs hek
  go_enter Tryz.func10, Tryz.ntmps10
  go_wp2_with fail
  rw [HW1.out]
  refine (HN0.out w1 (HEK.out.below B1.out)).mono ?_
  rintro _ w2 ⟨rfl, b2⟩
  have R2 := Lib.hid (row_stays R1.out b2)
  have B2 := Lib.hid (B1.out.trans (b2.mono B1.out.size))
  clear b2 R1 B1 HN0
  go_wp2_with fail
  refine (HO.out w2).mono ?_
  rintro _ w3 ⟨⟨A, rfl, he3⟩, b3⟩
  have HE3 := Lib.hid he3
  have R3 := Lib.hid (row_stays R2.out b3)
  have B3 := Lib.hid (B2.out.trans (b3.mono B2.out.size))
  clear b3 R2 B2 he3
  go_wp2_with fail
  refine (HN1.out A w3 (HEK.out.below B3.out) HE3.out).mono ?_
  rintro _ w4 ⟨rfl, b4⟩
  have R4 := Lib.hid (row_stays R3.out b4)
  have B4 := Lib.hid (B3.out.trans (b4.mono B3.out.size))
  clear b4 R3 B3 HE3 HN1
  go_wp2_with fail
  refine (HF0.out w4).mono ?_
  rintro _ w5 ⟨rfl, b5⟩
  have R5 := Lib.hid (row_stays R4.out b5)
  have B5 := Lib.hid (B4.out.trans (b5.mono B4.out.size))
  clear b5 R4 B4
  go_wp2_with fail
  refine (HF1.out w5).mono ?_
  rintro _ w6 ⟨rfl, b6⟩
  have R6 := Lib.hid (row_stays R5.out b6)
  have B6 := Lib.hid (B5.out.trans (b6.mono B5.out.size))
  clear b6 R5 B5
  go_wp2_with (first
    | (refine wpList_load_row_g _ _ rfl w.heap.size rfl 25 #[.int .i64 0, .int .i64 1, .int .i64 1, .slice none 0 0] (0, 0) _ R6.out Tryz.underlying25 rfl (by kernel_rfl) (by kernel_rfl) ?_)
    | fail)
  refine (HB0.out w6 (HEK.out.below B6.out)).mono ?_
  rintro _ w7 ⟨rfl, b7⟩
  have B7 := Lib.hid (B6.out.trans (b7.mono B6.out.size))
  clear b7 R6 B6
  go_wp2_with fail
  refine (HO.out w7).mono ?_
  rintro _ w8 ⟨⟨A, rfl, he8⟩, b8⟩
  have HE8 := Lib.hid he8
  have B8 := Lib.hid (B7.out.trans (b8.mono B7.out.size))
  clear b8 B7 he8
  go_wp2_with fail
  refine (HB1.out A w8 (HEK.out.below B8.out) HE8.out).mono ?_
  rintro _ w9 ⟨rfl, b9⟩
  have B9 := Lib.hid (B8.out.trans (b9.mono B8.out.size))
  go_wp2_with fail
  go_ret
  exact ⟨rfl, B9.out⟩
theorem no_any (b : ByteArray) (at_ : Nat) (e : Int) (hb : b.size ≤ 1000) (hwr : wrR b = (at_, e)) (he : e ≠ 0) (ha : at_ ≤ 1000) (w : World) (hek : Ek w) : Calls Tryz.prog 14 #[.string b, .int .i64 (at_ : Int), .int .i64 e] w fun r w' => r = .returned (.bool true) ∧ Below w.heap.size w w' := by
  obtain ⟨S, hS⟩ : ∃ S, S = frameS b := ⟨_, rfl⟩
  have hfs := frame_size b
  have hns := numS_le b.size
  rw [← hS] at hfs
  have hnp : b.size + 4 ≤ S.size ∧ S.size ≤ 16777216 := by omega
  have HF0 : Hid (Calls Tryz.prog 21 #[.string b] w fun e w' => e = .returned (.string S) ∧ Below w.heap.size w w') := by
    rw [hS]; exact framedT b (by omega) w
  have HD : Hid (∀ W, Ek W → Calls Tryz.prog 13 #[.string S] W fun r w' => r = .returned (.tuple #[.agg #[.int .i64 0, .int .i64 0, .int .i64 0, .slice none 0 0], .int .i64 ((S.size - b.size - 4 + at_ : Nat) : Int), .int .i64 e]) ∧ Below W.heap.size W w') := fun W hW => by
    have h := decode_wrong S b (by rw [hS]; exact frame_back b (by rw [← hS]; omega)) (by omega) hnp (by rw [hwr]; exact he) W hW
    rw [hwr] at h
    exact h
  have HSM : Hid (∀ W, Calls Tryz.prog 16 #[.agg #[.int .i64 0, .int .i64 0, .int .i64 0, .slice none 0 0], .agg #[.int .i64 0, .int .i64 0, .int .i64 0, .slice none 0 0]] W fun r w' => r = .returned (.bool true) ∧ Below W.heap.size W w') := fun W =>
    same_any 0 0 0 none [] 0 0 0 0 none [] 0 W (fun i hi => absurd hi (Nat.not_lt_zero _)) (fun i hi => absurd hi (Nat.not_lt_zero _)) (by decide)
  obtain ⟨z, hz⟩ : ∃ z : Int, z = ((S.size - b.size - 4 + at_ : Nat) : Int) := ⟨_, rfl⟩
  rw [← hz] at HD
  have HEK := Lib.hid hek
  clear hS hfs hns hwr hek
  go_enter Tryz.func14, Tryz.ntmps14
  go_wp2_with fail
  refine HF0.out.mono ?_
  rintro _ w1 ⟨rfl, b1⟩
  go_wp2_with fail
  refine (HD.out w1 (HEK.out.below b1)).mono ?_
  rintro _ w2 ⟨rfl, b2⟩
  go_wp2_with fail
  refine (HSM.out _).mono ?_
  rintro _ w3 ⟨rfl, b3⟩
  go_wp2_with fail
  go_ret
  have b := b1.trans (b2.mono b1.size)
  exact ⟨rfl, (b.alloc b.size _).trans (b3.mono (b.alloc b.size _).size)⟩
end Go.Proofs.YteigglhhnemngaaGreatDoor
