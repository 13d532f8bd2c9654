/-
  P15.2, P15.3, P2: THE WALK OF TraceBack. Laid by gen/gen_trn.py. Conditions: the table of names lies.
-/
import Derived.Test.YteigglhhnemngaaGreatDoorTrl
import Derived.Test.YteigglhhnemngaaGreatDoorQ15
namespace Go.Proofs.YteigglhhnemngaaGreatDoor
set_option maxRecDepth 100000
open Go.RowKit Go.Deep
set_option linter.unusedVariables false
set_option linter.unusedSimpArgs false
def DecBad (s : ByteArray) : Prop := ∃ (n : Nat) (g : Int), n ≤ s.size ∧ g ≠ 0 ∧ ∀ W, Ek W → Calls Tryz.prog 13 #[.string s] W fun r w' => r = .returned (.tuple #[.agg #[.int .i64 0, .int .i64 0, .int .i64 0, .slice none 0 0], .int .i64 (n : Int), .int .i64 g]) ∧ Below W.heap.size W w'
def DecGood (s : ByteArray) : Prop := ∃ T V S L, i64P T ∧ i64P V ∧ i64P S ∧ L.length ≤ 100000 ∧ (checkF T V S L).2 = 0 ∧ encW T V S L = s ∧ ∀ W, Ek W → Calls Tryz.prog 13 #[.string s] W fun r w' => (∃ A c, r = .returned (.tuple #[.agg #[.int .i64 T, .int .i64 V, .int .i64 S, .slice A L.length c], .int .i64 0, .int .i64 0]) ∧ EvsAt w' w'.heap.size A L) ∧ Below W.heap.size W w'
theorem dec_cases (s : ByteArray) (hs : s.size ≤ 20000) : DecBad s ∨ DecGood s := by
  obtain ⟨t, place, e, hu, _, ht⟩ := told_any s (by omega)
  rcases ht with ⟨he, rfl, hp⟩ | ⟨rfl, rfl, hf⟩
  · exact .inl ⟨place, (e : Int), hp, by omega, fun W hW => decode_bad s _ place e he hu W⟩
  · have hfs := frame_size t
    have hns := numS_le t.size
    rw [hf] at hfs
    by_cases hwr : (wrR t).2 = 0
    · obtain ⟨k1, k2, k3, k4, k5, k6, k7⟩ := wrR_back t hwr
      have hck := fine_iff.2 ⟨k1, k2, k3⟩
      have hck2 : (checkF (z1 t).1 (z2 t).1 (z3 t).1 (evsS t).1).2 = 0 := by rw [hck]
      have hbl := body_len k1 k3 k4
      have hbz : t.size = (bodyB (z1 t).1 (z2 t).1 (z3 t).1 (evsS t).1).length := by rw [← bs_size, ← k5]
      have hsz := size_num k1
      refine .inr ⟨_, _, _, _, ⟨by omega, by omega⟩, ⟨by omega, by omega⟩, ⟨by omega, by omega⟩, by omega, hck2, ?_, fun W hW => decode_ok s t hu (by omega) (by omega) hwr W hW⟩
      unfold encW
      rw [if_pos hck2, ← k5]
      exact hf
    · obtain ⟨hp, hE⟩ := wrR_ok t
      exact .inl ⟨s.size - t.size - 4 + (wrR t).1, (wrR t).2, by omega, hwr, fun W hW => decode_wrong s t hu (by omega) (by omega) hwr W hW⟩
theorem bck_long (T V S : Int) (A : Option Addr) (L : List Ev) (c : Nat) (s : ByteArray) (hl0 : L.length ≤ 9223372036854775807) (hs0 : s.size ≤ 9223372036854775807) (h : 2000 < L.length ∨ 20000 < s.size) (w : World) (hek : Ek w) : Calls Tryz.prog 5 #[trV T V S A L.length c, .string s] w fun r w' => r = .returned (.bool true) ∧ Below w.heap.size w w' := by
  have HW := Lib.hid (fun W (h : Ek W) => works_any W h)
  have HEK := Lib.hid hek
  obtain ⟨w1, hw1⟩ : ∃ W, w.alloc (.cells #[.int .i64 T, .int .i64 V, .int .i64 S, .slice A L.length c] 25) = W := ⟨_, rfl⟩
  have b1 : Below w.heap.size w w1 := by rw [← hw1]; exact (Below.refl _ _).alloc (Nat.le_refl _) _
  have R1 : Hid (w1.heap[w.heap.size]? = some (.cells #[.int .i64 T, .int .i64 V, .int .i64 S, .slice A L.length c] 25 (0, 0))) := by rw [← hw1]; exact heap_alloc_new w _
  have B1 := Lib.hid b1
  have HW1 := Lib.hid hw1
  obtain ⟨n, hn⟩ : ∃ n, n = L.length := ⟨_, rfl⟩
  rw [← hn] at hl0 h HW1 R1 ⊢
  unfold trV
  clear hek hw1 b1 hn
  by_cases hq : 2000 < n
  · have q1 : (2000 : Int) < (n : Int) := by omega
    clear h hq
    go_enter Tryz.func5, Tryz.ntmps5
    go_wp2_with fail
    rw [HW1.out]
    refine (HW.out w1 (HEK.out.below B1.out)).mono ?_
    rintro _ w2 ⟨rfl, b2⟩
    have x3 := cell_of_row w2 w.heap.size 3 _ _ _ (row_stays R1.out b2)
    simp only [List.getElem?_toArray, List.getElem?_cons_zero, List.getElem?_cons_succ] at x3
    have B2 := Lib.hid (B1.out.trans (b2.mono B1.out.size))
    clear b2
    go_wp2_with fail
    refine (HW.out w2 (HEK.out.below B2.out)).mono ?_
    rintro _ w3 ⟨rfl, b3⟩
    clear x3
    go_wp2_with fail
    go_ret
    exact ⟨rfl, B2.out.trans (b3.mono B2.out.size)⟩
  · have q1 : ¬ (2000 : Int) < (n : Int) := by omega
    have q2 : (20000 : Int) < (s.size : Int) := by omega
    clear h hq
    go_enter Tryz.func5, Tryz.ntmps5
    go_wp2_with fail
    rw [HW1.out]
    refine (HW.out w1 (HEK.out.below B1.out)).mono ?_
    rintro _ w2 ⟨rfl, b2⟩
    have x3 := cell_of_row w2 w.heap.size 3 _ _ _ (row_stays R1.out b2)
    simp only [List.getElem?_toArray, List.getElem?_cons_zero, List.getElem?_cons_succ] at x3
    have B2 := Lib.hid (B1.out.trans (b2.mono B1.out.size))
    clear b2
    go_wp2_with fail
    refine (HW.out w2 (HEK.out.below B2.out)).mono ?_
    rintro _ w3 ⟨rfl, b3⟩
    clear x3
    go_wp2_with fail
    go_ret
    exact ⟨rfl, B2.out.trans (b3.mono B2.out.size)⟩
set_option maxHeartbeats 4000000 in
theorem bck_11 (T V S : Int) (A : Option Addr) (L : List Ev) (c : Nat) (s : ByteArray) (hT : i64P T) (hV : i64P V) (hS : i64P S) (hl : L.length ≤ 2000) (hs : s.size ≤ 20000) (hck : (checkF T V S L).2 = 0) (hD : DecGood s) (w : World) (hek : Ek w) (he : EvsAt w w.heap.size A L) : Calls Tryz.prog 5 #[trV T V S A L.length c, .string s] w fun r w' => r = .returned (.bool true) ∧ Below w.heap.size w w' := by
  have HW := Lib.hid (fun W (h : Ek W) => works_any W h)
  have HEK := Lib.hid hek
  have HE := Lib.hid he
  have HC : Hid (∀ W, Ek W → EvsAt W W.heap.size A L → Calls Tryz.prog 19 #[.agg #[.int .i64 T, .int .i64 V, .int .i64 S, .slice A L.length c]] W fun r w' => r = .returned (.tuple #[.int .i64 ((checkF T V S L).1 : Nat), .int .i64 0]) ∧ Below W.heap.size W w') := fun W hW h => by
    have h := check_any13 W hW T V S A L c hT hV hS (by omega) h
    rw [hck] at h
    exact h
  have HN : Hid (∀ W, Ek W → EvsAt W W.heap.size A L → Calls Tryz.prog 12 #[.agg #[.int .i64 T, .int .i64 V, .int .i64 S, .slice A L.length c]] W fun r w' => r = .returned (.tuple #[.string (encW T V S L), .int .i64 0]) ∧ Below W.heap.size W w') := fun W hW h => by
    have h := encode_any W hW T V S A L c hT hV hS (by omega) h
    rw [hck] at h
    exact h
  have HB : Hid (∀ W, Ek W → EvsAt W W.heap.size A L → Calls Tryz.prog 20 #[.agg #[.int .i64 T, .int .i64 V, .int .i64 S, .slice A L.length c]] W fun r w' => r = .returned (.bool true) ∧ Below W.heap.size W w') := fun W hW h => back_yes hck hT hV hS (by omega) W hW h
  obtain ⟨E, hE⟩ : ∃ E, E = encW T V S L := ⟨_, rfl⟩
  rw [← hE] at HN
  obtain ⟨kk, hkk⟩ : ∃ k : Int, k = ((checkF T V S L).1 : Nat) := ⟨_, rfl⟩
  rw [← hkk] at HC
  obtain ⟨T', V', S', M, hT', hV', hS', hM, hck', henc, hdec⟩ := hD
  have HD := Lib.hid hdec
  have HC2 : Hid (∀ B d W, Ek W → EvsAt W W.heap.size B M → Calls Tryz.prog 19 #[.agg #[.int .i64 T', .int .i64 V', .int .i64 S', .slice B M.length d]] W fun r w' => r = .returned (.tuple #[.int .i64 ((checkF T' V' S' M).1 : Nat), .int .i64 0]) ∧ Below W.heap.size W w') := fun B d W hW h => by
    have h := check_any13 W hW T' V' S' B M d hT' hV' hS' hM h
    rw [hck'] at h
    exact h
  have HN2 : Hid (∀ B d W, Ek W → EvsAt W W.heap.size B M → Calls Tryz.prog 12 #[.agg #[.int .i64 T', .int .i64 V', .int .i64 S', .slice B M.length d]] W fun r w' => r = .returned (.tuple #[.string s, .int .i64 0]) ∧ Below W.heap.size W w') := fun B d W hW h => by
    have h := encode_any W hW T' V' S' B M d hT' hV' hS' hM h
    rw [hck', henc] at h
    exact h
  obtain ⟨k2, hk2⟩ : ∃ k : Int, k = ((checkF T' V' S' M).1 : Nat) := ⟨_, rfl⟩
  rw [← hk2] at HC2
  obtain ⟨m, hm⟩ : ∃ n, n = M.length := ⟨_, rfl⟩
  rw [← hm] at HC2 HN2 HD
  clear hT' hV' hS' hM hck' henc hdec hk2 hm
  obtain ⟨w1, hw1⟩ : ∃ W, w.alloc (.cells #[.int .i64 T, .int .i64 V, .int .i64 S, .slice A L.length c] 25) = W := ⟨_, rfl⟩
  have b1 : Below w.heap.size w w1 := by rw [← hw1]; exact (Below.refl _ _).alloc (Nat.le_refl _) _
  have R1 : Hid (w1.heap[w.heap.size]? = some (.cells #[.int .i64 T, .int .i64 V, .int .i64 S, .slice A L.length c] 25 (0, 0))) := by rw [← hw1]; exact heap_alloc_new w _
  have B1 := Lib.hid b1
  have HW1 := Lib.hid hw1
  obtain ⟨n, hn⟩ : ∃ n, n = L.length := ⟨_, rfl⟩
  rw [← hn] at hl HC HN HB HW1 R1 ⊢
  unfold trV
  clear hek he hw1 b1 hn hkk hck hT hV hS hE
  have i1 : ¬ (2000 : Int) < (n : Int) := by omega
  have i2 : ¬ (20000 : Int) < (s.size : Int) := by omega
  go_enter Tryz.func5, Tryz.ntmps5
  go_wp2_with fail
  rw [HW1.out]
  refine (HW.out w1 (HEK.out.below B1.out)).mono ?_
  rintro _ w2 ⟨rfl, b2⟩
  have B2 := Lib.hid (B1.out.trans (b2.mono B1.out.size))
  have R2 := Lib.hid (row_stays R1.out b2)
  clear b2 B1 R1
  have x0 := cell_of_row w2 w.heap.size 0 _ _ _ R2.out
  have x1 := cell_of_row w2 w.heap.size 1 _ _ _ R2.out
  have x2 := cell_of_row w2 w.heap.size 2 _ _ _ R2.out
  have x3 := cell_of_row w2 w.heap.size 3 _ _ _ R2.out
  simp only [List.getElem?_toArray, List.getElem?_cons_zero, List.getElem?_cons_succ] at x0 x1 x2 x3
  go_wp2_with fail
  clear x0 x1 x2 x3 i1 i2
  refine (HC.out w2 (HEK.out.below B2.out) ((HE.out.below B2.out (Nat.le_refl _)).mono B2.out.size)).mono ?_
  rintro _ w3 ⟨rfl, b3⟩
  have B3 := Lib.hid (B2.out.trans (b3.mono B2.out.size))
  have R3 := Lib.hid (row_stays R2.out b3)
  clear b3 B2 R2
  have x0 := cell_of_row w3 w.heap.size 0 _ _ _ R3.out
  have x1 := cell_of_row w3 w.heap.size 1 _ _ _ R3.out
  have x2 := cell_of_row w3 w.heap.size 2 _ _ _ R3.out
  have x3 := cell_of_row w3 w.heap.size 3 _ _ _ R3.out
  simp only [List.getElem?_toArray, List.getElem?_cons_zero, List.getElem?_cons_succ] at x0 x1 x2 x3
  go_wp2_with fail
  clear x0 x1 x2 x3
  refine (HN.out w3 (HEK.out.below B3.out) ((HE.out.below B3.out (Nat.le_refl _)).mono B3.out.size)).mono ?_
  rintro _ w4 ⟨rfl, b4⟩
  have B4 := Lib.hid (B3.out.trans (b4.mono B3.out.size))
  have R4 := Lib.hid (row_stays R3.out b4)
  clear b4 B3 R3
  go_wp2_with (first
    | (refine wpList_load_row_g _ _ rfl w.heap.size rfl 25 #[.int .i64 T, .int .i64 V, .int .i64 S, .slice A n c] (0, 0) _ R4.out Tryz.underlying25 rfl (by kernel_rfl) (by kernel_rfl) ?_)
    | fail)
  refine (HB.out w4 (HEK.out.below B4.out) ((HE.out.below B4.out (Nat.le_refl _)).mono B4.out.size)).mono ?_
  rintro _ w5 ⟨rfl, b5⟩
  have B5 := Lib.hid (B4.out.trans (b5.mono B4.out.size))
  have R5 := Lib.hid (row_stays R4.out b5)
  clear b5 B4 R4
  go_wp2_with fail
  refine (HD.out w5 (HEK.out.below B5.out)).mono ?_
  rintro _ v1 ⟨⟨B, d, rfl, hev⟩, b9⟩
  have C1 := Lib.hid (B5.out.trans (b9.mono B5.out.size))
  have HEV := Lib.hid hev
  clear b9 hev
  go_wp2_with fail
  obtain ⟨v2, hv2⟩ : ∃ W, v1.alloc (.cells #[.int .i64 T', .int .i64 V', .int .i64 S', .slice B m d] 25) = W := ⟨_, rfl⟩
  rw [hv2]
  have b2 : Below v1.heap.size v1 v2 := by rw [← hv2]; exact (Below.refl _ _).alloc (Nat.le_refl _) _
  have r2 : v2.heap[v1.heap.size]? = some (.cells #[.int .i64 T', .int .i64 V', .int .i64 S', .slice B m d] 25 (0, 0)) := by rw [← hv2]; exact heap_alloc_new v1 _
  have C2 := Lib.hid (C1.out.trans (b2.mono C1.out.size))
  have E2 := Lib.hid ((HEV.out.below b2 (Nat.le_refl _)).mono b2.size)
  clear hv2
  refine (HC2.out B d v2 (HEK.out.below C2.out) E2.out).mono ?_
  rintro _ v3 ⟨rfl, b3⟩
  have r3 := row_stays r2 b3
  have y0 := cell_of_row v3 v1.heap.size 0 _ _ _ r3
  have y1 := cell_of_row v3 v1.heap.size 1 _ _ _ r3
  have y2 := cell_of_row v3 v1.heap.size 2 _ _ _ r3
  have y3 := cell_of_row v3 v1.heap.size 3 _ _ _ r3
  simp only [List.getElem?_toArray, List.getElem?_cons_zero, List.getElem?_cons_succ] at y0 y1 y2 y3
  have C3 := Lib.hid (C2.out.trans (b3.mono C2.out.size))
  have E3 := Lib.hid ((E2.out.below b3 (Nat.le_refl _)).mono b3.size)
  clear r2 r3 b2 b3
  go_wp2_with fail
  refine (HN2.out B d v3 (HEK.out.below C3.out) E3.out).mono ?_
  rintro _ v4 ⟨rfl, b4⟩
  clear y0 y1 y2 y3
  go_wp2_with fail
  go_ret
  exact ⟨rfl, C3.out.trans (b4.mono C3.out.size)⟩
set_option maxHeartbeats 4000000 in
theorem bck_10 (T V S : Int) (A : Option Addr) (L : List Ev) (c : Nat) (s : ByteArray) (hT : i64P T) (hV : i64P V) (hS : i64P S) (hl : L.length ≤ 2000) (hs : s.size ≤ 20000) (hck : (checkF T V S L).2 = 0) (hD : DecBad s) (w : World) (hek : Ek w) (he : EvsAt w w.heap.size A L) : Calls Tryz.prog 5 #[trV T V S A L.length c, .string s] w fun r w' => r = .returned (.bool true) ∧ Below w.heap.size w w' := by
  have HW := Lib.hid (fun W (h : Ek W) => works_any W h)
  have HEK := Lib.hid hek
  have HE := Lib.hid he
  have HC : Hid (∀ W, Ek W → EvsAt W W.heap.size A L → Calls Tryz.prog 19 #[.agg #[.int .i64 T, .int .i64 V, .int .i64 S, .slice A L.length c]] W fun r w' => r = .returned (.tuple #[.int .i64 ((checkF T V S L).1 : Nat), .int .i64 0]) ∧ Below W.heap.size W w') := fun W hW h => by
    have h := check_any13 W hW T V S A L c hT hV hS (by omega) h
    rw [hck] at h
    exact h
  have HN : Hid (∀ W, Ek W → EvsAt W W.heap.size A L → Calls Tryz.prog 12 #[.agg #[.int .i64 T, .int .i64 V, .int .i64 S, .slice A L.length c]] W fun r w' => r = .returned (.tuple #[.string (encW T V S L), .int .i64 0]) ∧ Below W.heap.size W w') := fun W hW h => by
    have h := encode_any W hW T V S A L c hT hV hS (by omega) h
    rw [hck] at h
    exact h
  have HB : Hid (∀ W, Ek W → EvsAt W W.heap.size A L → Calls Tryz.prog 20 #[.agg #[.int .i64 T, .int .i64 V, .int .i64 S, .slice A L.length c]] W fun r w' => r = .returned (.bool true) ∧ Below W.heap.size W w') := fun W hW h => back_yes hck hT hV hS (by omega) W hW h
  obtain ⟨E, hE⟩ : ∃ E, E = encW T V S L := ⟨_, rfl⟩
  rw [← hE] at HN
  obtain ⟨kk, hkk⟩ : ∃ k : Int, k = ((checkF T V S L).1 : Nat) := ⟨_, rfl⟩
  rw [← hkk] at HC
  obtain ⟨p, g, hp, hg, hdec⟩ := hD
  have HD := Lib.hid hdec
  have q5 : (g != 0) = true := bne_iff_ne.2 hg
  have q6 : (0 : Int) ≤ (p : Int) := by omega
  have q7 : (p : Int) ≤ (s.size : Int) := by omega
  have HSM : Hid (∀ W, Calls Tryz.prog 16 #[.agg #[.int .i64 0, .int .i64 0, .int .i64 0, .slice none 0 0], .agg #[.int .i64 0, .int .i64 0, .int .i64 0, .slice none 0 0]] W fun r w' => r = .returned (.bool true) ∧ Below W.heap.size W w') := fun W =>
    same_any 0 0 0 none [] 0 0 0 0 none [] 0 W (fun i hi => absurd hi (Nat.not_lt_zero _)) (fun i hi => absurd hi (Nat.not_lt_zero _)) (by decide)
  clear hdec
  obtain ⟨w1, hw1⟩ : ∃ W, w.alloc (.cells #[.int .i64 T, .int .i64 V, .int .i64 S, .slice A L.length c] 25) = W := ⟨_, rfl⟩
  have b1 : Below w.heap.size w w1 := by rw [← hw1]; exact (Below.refl _ _).alloc (Nat.le_refl _) _
  have R1 : Hid (w1.heap[w.heap.size]? = some (.cells #[.int .i64 T, .int .i64 V, .int .i64 S, .slice A L.length c] 25 (0, 0))) := by rw [← hw1]; exact heap_alloc_new w _
  have B1 := Lib.hid b1
  have HW1 := Lib.hid hw1
  obtain ⟨n, hn⟩ : ∃ n, n = L.length := ⟨_, rfl⟩
  rw [← hn] at hl HC HN HB HW1 R1 ⊢
  unfold trV
  clear hek he hw1 b1 hn hkk hck hT hV hS hE
  have i1 : ¬ (2000 : Int) < (n : Int) := by omega
  have i2 : ¬ (20000 : Int) < (s.size : Int) := by omega
  go_enter Tryz.func5, Tryz.ntmps5
  go_wp2_with fail
  rw [HW1.out]
  refine (HW.out w1 (HEK.out.below B1.out)).mono ?_
  rintro _ w2 ⟨rfl, b2⟩
  have B2 := Lib.hid (B1.out.trans (b2.mono B1.out.size))
  have R2 := Lib.hid (row_stays R1.out b2)
  clear b2 B1 R1
  have x0 := cell_of_row w2 w.heap.size 0 _ _ _ R2.out
  have x1 := cell_of_row w2 w.heap.size 1 _ _ _ R2.out
  have x2 := cell_of_row w2 w.heap.size 2 _ _ _ R2.out
  have x3 := cell_of_row w2 w.heap.size 3 _ _ _ R2.out
  simp only [List.getElem?_toArray, List.getElem?_cons_zero, List.getElem?_cons_succ] at x0 x1 x2 x3
  go_wp2_with fail
  clear x0 x1 x2 x3 i1 i2
  refine (HC.out w2 (HEK.out.below B2.out) ((HE.out.below B2.out (Nat.le_refl _)).mono B2.out.size)).mono ?_
  rintro _ w3 ⟨rfl, b3⟩
  have B3 := Lib.hid (B2.out.trans (b3.mono B2.out.size))
  have R3 := Lib.hid (row_stays R2.out b3)
  clear b3 B2 R2
  have x0 := cell_of_row w3 w.heap.size 0 _ _ _ R3.out
  have x1 := cell_of_row w3 w.heap.size 1 _ _ _ R3.out
  have x2 := cell_of_row w3 w.heap.size 2 _ _ _ R3.out
  have x3 := cell_of_row w3 w.heap.size 3 _ _ _ R3.out
  simp only [List.getElem?_toArray, List.getElem?_cons_zero, List.getElem?_cons_succ] at x0 x1 x2 x3
  go_wp2_with fail
  clear x0 x1 x2 x3
  refine (HN.out w3 (HEK.out.below B3.out) ((HE.out.below B3.out (Nat.le_refl _)).mono B3.out.size)).mono ?_
  rintro _ w4 ⟨rfl, b4⟩
  have B4 := Lib.hid (B3.out.trans (b4.mono B3.out.size))
  have R4 := Lib.hid (row_stays R3.out b4)
  clear b4 B3 R3
  go_wp2_with (first
    | (refine wpList_load_row_g _ _ rfl w.heap.size rfl 25 #[.int .i64 T, .int .i64 V, .int .i64 S, .slice A n c] (0, 0) _ R4.out Tryz.underlying25 rfl (by kernel_rfl) (by kernel_rfl) ?_)
    | fail)
  refine (HB.out w4 (HEK.out.below B4.out) ((HE.out.below B4.out (Nat.le_refl _)).mono B4.out.size)).mono ?_
  rintro _ w5 ⟨rfl, b5⟩
  have B5 := Lib.hid (B4.out.trans (b5.mono B4.out.size))
  have R5 := Lib.hid (row_stays R4.out b5)
  clear b5 B4 R4
  go_wp2_with fail
  refine (HD.out w5 (HEK.out.below B5.out)).mono ?_
  rintro _ v1 ⟨rfl, b9⟩
  have C1 := Lib.hid (B5.out.trans (b9.mono B5.out.size))
  clear b9
  go_wp2_with fail
  refine (HSM.out _).mono ?_
  rintro _ v3 ⟨rfl, b3⟩
  go_wp2_with fail
  go_ret
  have b := C1.out.alloc C1.out.size (.cells #[.int .i64 0, .int .i64 0, .int .i64 0, .slice none 0 0] 25)
  exact ⟨rfl, b.trans (b3.mono b.size)⟩
set_option maxHeartbeats 4000000 in
theorem bck_01 (T V S : Int) (A : Option Addr) (L : List Ev) (c : Nat) (s : ByteArray) (hT : i64P T) (hV : i64P V) (hS : i64P S) (hl : L.length ≤ 2000) (hs : s.size ≤ 20000) (hck : (checkF T V S L).2 ≠ 0) (hD : DecGood s) (w : World) (hek : Ek w) (he : EvsAt w w.heap.size A L) : Calls Tryz.prog 5 #[trV T V S A L.length c, .string s] w fun r w' => r = .returned (.bool true) ∧ Below w.heap.size w w' := by
  have HW := Lib.hid (fun W (h : Ek W) => works_any W h)
  have HEK := Lib.hid hek
  have HE := Lib.hid he
  obtain ⟨e, hee⟩ : ∃ e, e = (checkF T V S L).2 := ⟨_, rfl⟩
  have HC : Hid (∀ W, Ek W → EvsAt W W.heap.size A L → Calls Tryz.prog 19 #[.agg #[.int .i64 T, .int .i64 V, .int .i64 S, .slice A L.length c]] W fun r w' => r = .returned (.tuple #[.int .i64 ((checkF T V S L).1 : Nat), .int .i64 e]) ∧ Below W.heap.size W w') := fun W hW h => by
    rw [hee]
    exact check_any13 W hW T V S A L c hT hV hS (by omega) h
  have HN : Hid (∀ W, Ek W → EvsAt W W.heap.size A L → Calls Tryz.prog 12 #[.agg #[.int .i64 T, .int .i64 V, .int .i64 S, .slice A L.length c]] W fun r w' => r = .returned (.tuple #[.string ⟨#[]⟩, .int .i64 e]) ∧ Below W.heap.size W w') := fun W hW h => by
    rw [hee]
    have h := encode_any W hW T V S A L c hT hV hS (by omega) h
    unfold encW at h
    rw [if_neg hck] at h
    exact h
  rw [← hee] at hck
  have q1 : (e == 0) = false := beq_eq_false_iff_ne.2 hck
  have q2 : (e != 0) = true := bne_iff_ne.2 hck
  have q3 : (e != e) = false := by simp
  obtain ⟨kk, hkk⟩ : ∃ k : Int, k = ((checkF T V S L).1 : Nat) := ⟨_, rfl⟩
  rw [← hkk] at HC
  obtain ⟨T', V', S', M, hT', hV', hS', hM, hck', henc, hdec⟩ := hD
  have HD := Lib.hid hdec
  have HC2 : Hid (∀ B d W, Ek W → EvsAt W W.heap.size B M → Calls Tryz.prog 19 #[.agg #[.int .i64 T', .int .i64 V', .int .i64 S', .slice B M.length d]] W fun r w' => r = .returned (.tuple #[.int .i64 ((checkF T' V' S' M).1 : Nat), .int .i64 0]) ∧ Below W.heap.size W w') := fun B d W hW h => by
    have h := check_any13 W hW T' V' S' B M d hT' hV' hS' hM h
    rw [hck'] at h
    exact h
  have HN2 : Hid (∀ B d W, Ek W → EvsAt W W.heap.size B M → Calls Tryz.prog 12 #[.agg #[.int .i64 T', .int .i64 V', .int .i64 S', .slice B M.length d]] W fun r w' => r = .returned (.tuple #[.string s, .int .i64 0]) ∧ Below W.heap.size W w') := fun B d W hW h => by
    have h := encode_any W hW T' V' S' B M d hT' hV' hS' hM h
    rw [hck', henc] at h
    exact h
  obtain ⟨k2, hk2⟩ : ∃ k : Int, k = ((checkF T' V' S' M).1 : Nat) := ⟨_, rfl⟩
  rw [← hk2] at HC2
  obtain ⟨m, hm⟩ : ∃ n, n = M.length := ⟨_, rfl⟩
  rw [← hm] at HC2 HN2 HD
  clear hT' hV' hS' hM hck' henc hdec hk2 hm
  obtain ⟨w1, hw1⟩ : ∃ W, w.alloc (.cells #[.int .i64 T, .int .i64 V, .int .i64 S, .slice A L.length c] 25) = W := ⟨_, rfl⟩
  have b1 : Below w.heap.size w w1 := by rw [← hw1]; exact (Below.refl _ _).alloc (Nat.le_refl _) _
  have R1 : Hid (w1.heap[w.heap.size]? = some (.cells #[.int .i64 T, .int .i64 V, .int .i64 S, .slice A L.length c] 25 (0, 0))) := by rw [← hw1]; exact heap_alloc_new w _
  have B1 := Lib.hid b1
  have HW1 := Lib.hid hw1
  obtain ⟨n, hn⟩ : ∃ n, n = L.length := ⟨_, rfl⟩
  rw [← hn] at hl HC HN HW1 R1 ⊢
  unfold trV
  clear hek he hw1 b1 hn hkk hck hT hV hS hee
  have i1 : ¬ (2000 : Int) < (n : Int) := by omega
  have i2 : ¬ (20000 : Int) < (s.size : Int) := by omega
  go_enter Tryz.func5, Tryz.ntmps5
  go_wp2_with fail
  rw [HW1.out]
  refine (HW.out w1 (HEK.out.below B1.out)).mono ?_
  rintro _ w2 ⟨rfl, b2⟩
  have B2 := Lib.hid (B1.out.trans (b2.mono B1.out.size))
  have R2 := Lib.hid (row_stays R1.out b2)
  clear b2 B1 R1
  have x0 := cell_of_row w2 w.heap.size 0 _ _ _ R2.out
  have x1 := cell_of_row w2 w.heap.size 1 _ _ _ R2.out
  have x2 := cell_of_row w2 w.heap.size 2 _ _ _ R2.out
  have x3 := cell_of_row w2 w.heap.size 3 _ _ _ R2.out
  simp only [List.getElem?_toArray, List.getElem?_cons_zero, List.getElem?_cons_succ] at x0 x1 x2 x3
  go_wp2_with fail
  clear x0 x1 x2 x3 i1 i2
  refine (HC.out w2 (HEK.out.below B2.out) ((HE.out.below B2.out (Nat.le_refl _)).mono B2.out.size)).mono ?_
  rintro _ w3 ⟨rfl, b3⟩
  have B3 := Lib.hid (B2.out.trans (b3.mono B2.out.size))
  have R3 := Lib.hid (row_stays R2.out b3)
  clear b3 B2 R2
  have x0 := cell_of_row w3 w.heap.size 0 _ _ _ R3.out
  have x1 := cell_of_row w3 w.heap.size 1 _ _ _ R3.out
  have x2 := cell_of_row w3 w.heap.size 2 _ _ _ R3.out
  have x3 := cell_of_row w3 w.heap.size 3 _ _ _ R3.out
  simp only [List.getElem?_toArray, List.getElem?_cons_zero, List.getElem?_cons_succ] at x0 x1 x2 x3
  go_wp2_with fail
  clear x0 x1 x2 x3
  refine (HN.out w3 (HEK.out.below B3.out) ((HE.out.below B3.out (Nat.le_refl _)).mono B3.out.size)).mono ?_
  rintro _ w4 ⟨rfl, b4⟩
  have B4 := Lib.hid (B3.out.trans (b4.mono B3.out.size))
  have R4 := Lib.hid (row_stays R3.out b4)
  clear b4 B3 R3
  go_wp2_with fail
  clear q1 q2 q3
  refine (HD.out w4 (HEK.out.below B4.out)).mono ?_
  rintro _ v1 ⟨⟨B, d, rfl, hev⟩, b9⟩
  have C1 := Lib.hid (B4.out.trans (b9.mono B4.out.size))
  have HEV := Lib.hid hev
  clear b9 hev
  go_wp2_with fail
  obtain ⟨v2, hv2⟩ : ∃ W, v1.alloc (.cells #[.int .i64 T', .int .i64 V', .int .i64 S', .slice B m d] 25) = W := ⟨_, rfl⟩
  rw [hv2]
  have b2 : Below v1.heap.size v1 v2 := by rw [← hv2]; exact (Below.refl _ _).alloc (Nat.le_refl _) _
  have r2 : v2.heap[v1.heap.size]? = some (.cells #[.int .i64 T', .int .i64 V', .int .i64 S', .slice B m d] 25 (0, 0)) := by rw [← hv2]; exact heap_alloc_new v1 _
  have C2 := Lib.hid (C1.out.trans (b2.mono C1.out.size))
  have E2 := Lib.hid ((HEV.out.below b2 (Nat.le_refl _)).mono b2.size)
  clear hv2
  refine (HC2.out B d v2 (HEK.out.below C2.out) E2.out).mono ?_
  rintro _ v3 ⟨rfl, b3⟩
  have r3 := row_stays r2 b3
  have y0 := cell_of_row v3 v1.heap.size 0 _ _ _ r3
  have y1 := cell_of_row v3 v1.heap.size 1 _ _ _ r3
  have y2 := cell_of_row v3 v1.heap.size 2 _ _ _ r3
  have y3 := cell_of_row v3 v1.heap.size 3 _ _ _ r3
  simp only [List.getElem?_toArray, List.getElem?_cons_zero, List.getElem?_cons_succ] at y0 y1 y2 y3
  have C3 := Lib.hid (C2.out.trans (b3.mono C2.out.size))
  have E3 := Lib.hid ((E2.out.below b3 (Nat.le_refl _)).mono b3.size)
  clear r2 r3 b2 b3
  go_wp2_with fail
  refine (HN2.out B d v3 (HEK.out.below C3.out) E3.out).mono ?_
  rintro _ v4 ⟨rfl, b4⟩
  clear y0 y1 y2 y3
  go_wp2_with fail
  go_ret
  exact ⟨rfl, C3.out.trans (b4.mono C3.out.size)⟩
set_option maxHeartbeats 4000000 in
theorem bck_00 (T V S : Int) (A : Option Addr) (L : List Ev) (c : Nat) (s : ByteArray) (hT : i64P T) (hV : i64P V) (hS : i64P S) (hl : L.length ≤ 2000) (hs : s.size ≤ 20000) (hck : (checkF T V S L).2 ≠ 0) (hD : DecBad s) (w : World) (hek : Ek w) (he : EvsAt w w.heap.size A L) : Calls Tryz.prog 5 #[trV T V S A L.length c, .string s] w fun r w' => r = .returned (.bool true) ∧ Below w.heap.size w w' := by
  have HW := Lib.hid (fun W (h : Ek W) => works_any W h)
  have HEK := Lib.hid hek
  have HE := Lib.hid he
  obtain ⟨e, hee⟩ : ∃ e, e = (checkF T V S L).2 := ⟨_, rfl⟩
  have HC : Hid (∀ W, Ek W → EvsAt W W.heap.size A L → Calls Tryz.prog 19 #[.agg #[.int .i64 T, .int .i64 V, .int .i64 S, .slice A L.length c]] W fun r w' => r = .returned (.tuple #[.int .i64 ((checkF T V S L).1 : Nat), .int .i64 e]) ∧ Below W.heap.size W w') := fun W hW h => by
    rw [hee]
    exact check_any13 W hW T V S A L c hT hV hS (by omega) h
  have HN : Hid (∀ W, Ek W → EvsAt W W.heap.size A L → Calls Tryz.prog 12 #[.agg #[.int .i64 T, .int .i64 V, .int .i64 S, .slice A L.length c]] W fun r w' => r = .returned (.tuple #[.string ⟨#[]⟩, .int .i64 e]) ∧ Below W.heap.size W w') := fun W hW h => by
    rw [hee]
    have h := encode_any W hW T V S A L c hT hV hS (by omega) h
    unfold encW at h
    rw [if_neg hck] at h
    exact h
  rw [← hee] at hck
  have q1 : (e == 0) = false := beq_eq_false_iff_ne.2 hck
  have q2 : (e != 0) = true := bne_iff_ne.2 hck
  have q3 : (e != e) = false := by simp
  obtain ⟨kk, hkk⟩ : ∃ k : Int, k = ((checkF T V S L).1 : Nat) := ⟨_, rfl⟩
  rw [← hkk] at HC
  obtain ⟨p, g, hp, hg, hdec⟩ := hD
  have HD := Lib.hid hdec
  have q5 : (g != 0) = true := bne_iff_ne.2 hg
  have q6 : (0 : Int) ≤ (p : Int) := by omega
  have q7 : (p : Int) ≤ (s.size : Int) := by omega
  have HSM : Hid (∀ W, Calls Tryz.prog 16 #[.agg #[.int .i64 0, .int .i64 0, .int .i64 0, .slice none 0 0], .agg #[.int .i64 0, .int .i64 0, .int .i64 0, .slice none 0 0]] W fun r w' => r = .returned (.bool true) ∧ Below W.heap.size W w') := fun W =>
    same_any 0 0 0 none [] 0 0 0 0 none [] 0 W (fun i hi => absurd hi (Nat.not_lt_zero _)) (fun i hi => absurd hi (Nat.not_lt_zero _)) (by decide)
  clear hdec
  obtain ⟨w1, hw1⟩ : ∃ W, w.alloc (.cells #[.int .i64 T, .int .i64 V, .int .i64 S, .slice A L.length c] 25) = W := ⟨_, rfl⟩
  have b1 : Below w.heap.size w w1 := by rw [← hw1]; exact (Below.refl _ _).alloc (Nat.le_refl _) _
  have R1 : Hid (w1.heap[w.heap.size]? = some (.cells #[.int .i64 T, .int .i64 V, .int .i64 S, .slice A L.length c] 25 (0, 0))) := by rw [← hw1]; exact heap_alloc_new w _
  have B1 := Lib.hid b1
  have HW1 := Lib.hid hw1
  obtain ⟨n, hn⟩ : ∃ n, n = L.length := ⟨_, rfl⟩
  rw [← hn] at hl HC HN HW1 R1 ⊢
  unfold trV
  clear hek he hw1 b1 hn hkk hck hT hV hS hee
  have i1 : ¬ (2000 : Int) < (n : Int) := by omega
  have i2 : ¬ (20000 : Int) < (s.size : Int) := by omega
  go_enter Tryz.func5, Tryz.ntmps5
  go_wp2_with fail
  rw [HW1.out]
  refine (HW.out w1 (HEK.out.below B1.out)).mono ?_
  rintro _ w2 ⟨rfl, b2⟩
  have B2 := Lib.hid (B1.out.trans (b2.mono B1.out.size))
  have R2 := Lib.hid (row_stays R1.out b2)
  clear b2 B1 R1
  have x0 := cell_of_row w2 w.heap.size 0 _ _ _ R2.out
  have x1 := cell_of_row w2 w.heap.size 1 _ _ _ R2.out
  have x2 := cell_of_row w2 w.heap.size 2 _ _ _ R2.out
  have x3 := cell_of_row w2 w.heap.size 3 _ _ _ R2.out
  simp only [List.getElem?_toArray, List.getElem?_cons_zero, List.getElem?_cons_succ] at x0 x1 x2 x3
  go_wp2_with fail
  clear x0 x1 x2 x3 i1 i2
  refine (HC.out w2 (HEK.out.below B2.out) ((HE.out.below B2.out (Nat.le_refl _)).mono B2.out.size)).mono ?_
  rintro _ w3 ⟨rfl, b3⟩
  have B3 := Lib.hid (B2.out.trans (b3.mono B2.out.size))
  have R3 := Lib.hid (row_stays R2.out b3)
  clear b3 B2 R2
  have x0 := cell_of_row w3 w.heap.size 0 _ _ _ R3.out
  have x1 := cell_of_row w3 w.heap.size 1 _ _ _ R3.out
  have x2 := cell_of_row w3 w.heap.size 2 _ _ _ R3.out
  have x3 := cell_of_row w3 w.heap.size 3 _ _ _ R3.out
  simp only [List.getElem?_toArray, List.getElem?_cons_zero, List.getElem?_cons_succ] at x0 x1 x2 x3
  go_wp2_with fail
  clear x0 x1 x2 x3
  refine (HN.out w3 (HEK.out.below B3.out) ((HE.out.below B3.out (Nat.le_refl _)).mono B3.out.size)).mono ?_
  rintro _ w4 ⟨rfl, b4⟩
  have B4 := Lib.hid (B3.out.trans (b4.mono B3.out.size))
  have R4 := Lib.hid (row_stays R3.out b4)
  clear b4 B3 R3
  go_wp2_with fail
  clear q1 q2 q3
  refine (HD.out w4 (HEK.out.below B4.out)).mono ?_
  rintro _ v1 ⟨rfl, b9⟩
  have C1 := Lib.hid (B4.out.trans (b9.mono B4.out.size))
  clear b9
  go_wp2_with fail
  refine (HSM.out _).mono ?_
  rintro _ v3 ⟨rfl, b3⟩
  go_wp2_with fail
  go_ret
  have b := C1.out.alloc C1.out.size (.cells #[.int .i64 0, .int .i64 0, .int .i64 0, .slice none 0 0] 25)
  exact ⟨rfl, b.trans (b3.mono b.size)⟩
theorem bck_walk (w : World) (hek : Ek w) (T V S : Int) (A : Option Addr) (L : List Ev) (c : Nat) (s : ByteArray) (hT : i64P T) (hV : i64P V) (hS : i64P S) (hl0 : L.length ≤ 9223372036854775807) (hs0 : s.size ≤ 9223372036854775807) (he : EvsAt w w.heap.size A L) : Calls Tryz.prog 5 #[trV T V S A L.length c, .string s] w fun r w' => r = .returned (.bool true) ∧ Below w.heap.size w w' := by
  by_cases h : 2000 < L.length ∨ 20000 < s.size
  · exact bck_long T V S A L c s hl0 hs0 h w hek
  · have h1 : L.length ≤ 2000 := by omega
    have h2 : s.size ≤ 20000 := by omega
    by_cases hck : (checkF T V S L).2 = 0 <;> rcases dec_cases s h2 with hD | hD
    · exact bck_10 T V S A L c s hT hV hS h1 h2 hck hD w hek he
    · exact bck_11 T V S A L c s hT hV hS h1 h2 hck hD w hek he
    · exact bck_00 T V S A L c s hT hV hS h1 h2 hck hD w hek he
    · exact bck_01 T V S A L c s hT hV hS h1 h2 hck hD w hek he
end Go.Proofs.YteigglhhnemngaaGreatDoor
