/-
  ShapePrefix, but for its card: what a well-formed trace begins by is one. Laid by gen/gen_ok.py. Conditions: CheckC.
-/
import Derived.Test.YtnkkakcnlcmikaaDoorOi
namespace Go.Proofs.YtnkkakcnlcmikaaDoor
set_option maxRecDepth 100000
open Go.RowKit
set_option linter.unusedVariables false
theorem take_get {L : List Ev} {k i : Nat} {e : Ev} (h : (L.take k)[i]? = some e) : L[i]? = some e ∧ i < k := by
  rw [List.getElem?_take] at h
  split at h
  · exact ⟨h, by assumption⟩
  · cases h
theorem take_of {L : List Ev} {k i : Nat} {e : Ev} (h : L[i]? = some e) (hk : i < k) : (L.take k)[i]? = some e := by rw [List.getElem?_take, if_pos hk]; exact h
/-- Of what a trace begins by the check comes as far as the trace's, or to its end. -/
theorem check_take (T V S : Int) (L : List Ev) (h1 : size13 T V S = true) (h2 : L.length ≤ 2000) (k : Nat) (hk : k ≤ L.length) : checkF T V S (L.take k) = if k ≤ (checkF T V S L).1 then (k, 0) else ((checkF T V S L).1, 4) := by
  have hlk : (L.take k).length = k := by rw [List.length_take]; omega
  have hf : ∀ {M : List Ev}, Fine T V S M → M.length ≤ 2000 → checkF T V S M = (M.length, 0) := fun {M} hm hl => fine_iff.2 ⟨h1, by omega, hm⟩
  rcases check_cases T V S L h1 (by omega) with ⟨h3, h4⟩ | ⟨j, e, he, hm, hfj, h4⟩
  · rw [h3]
    rw [if_pos hk, hf (h4.take k) (by omega), hlk]
  · rw [h4]
    simp only
    have hj : j < L.length := (List.getElem?_eq_some_iff.1 he).1
    by_cases hkj : k ≤ j
    · have : L.take k = (L.take j).take k := by rw [List.take_take, Nat.min_eq_left hkj]
      rw [if_pos hkj, hf (by rw [this]; exact hfj.take k) (by omega), hlk]
    · rw [if_neg hkj]
      have hek := take_of he (show j < k by omega)
      rcases check_cases T V S (L.take k) h1 (by omega) with ⟨_, h5⟩ | ⟨j2, e2, he2, hm2, hfj2, h6⟩
      · have := h5 j e hek
        rw [List.take_take, Nat.min_eq_left (by omega), hm] at this
        cases this
      · rw [h6]
        obtain ⟨he2', hj2k⟩ := take_get he2
        rw [List.take_take, Nat.min_eq_left (by omega)] at hm2
        have hj2 : j2 < L.length := (List.getElem?_eq_some_iff.1 he2').1
        rcases Nat.lt_trichotomy j j2 with h | h | h
        · rw [List.take_take, Nat.min_eq_left (by omega)] at hfj2
          have := hfj2 j e (take_of he h)
          rw [List.take_take, Nat.min_eq_left (by omega), hm] at this
          cases this
        · rw [h]
        · have := hfj j2 e2 (take_of he2' h)
          rw [List.take_take, Nat.min_eq_left (by omega), hm2] at this
          cases this
theorem check_size (T V S : Int) (L : List Ev) (h : size13 T V S = false) : checkF T V S L = (0, 1) := by
  unfold checkF
  rw [if_pos h]
set_option maxHeartbeats 8000000 in
theorem prefix_walk {Tb : World → Prop} (HC : CheckC Tb) (w : World) (ht : Tb w) (T V S : Int) (A : Option Addr) (L : List Ev) (c : Nat) (hT : i64P T) (hV : i64P V) (hS : i64P S) (hl : L.length ≤ 9223372036854775807) (he : EvsAt w w.heap.size A L) (hc : L.length ≤ c) (hc0 : A = none → c = 0) (y : Int) :
    Calls Tryd.prog 5 #[trV T V S A L.length c, .int .i64 y] w (Yes w) := by
  have HW : Hid (∀ w1, Below w.heap.size w w1 → Calls Tryd.prog 10 #[] w1 fun r w' => r = .returned (.bool true) ∧ Below w1.heap.size w1 w') := fun w1 hb => works_any HC w1 (HC.below w w1 ht hb)
  have HK : Hid (L.length ≤ 2000 → ∀ (k c' : Nat), k ≤ L.length → ∀ w1, Below w.heap.size w w1 → Calls Tryd.prog 19 #[trV T V S A k c'] w1 fun r w' => r = .returned (.tuple #[.int .i64 ((checkF T V S (L.take k)).1 : Nat), .int .i64 (checkF T V S (L.take k)).2]) ∧ Below w1.heap.size w1 w') := fun h k c' hk w1 hb => by
    have := HC.check w1 (HC.below w w1 ht hb) T V S A (L.take k) c' hT hV hS (by rw [List.length_take]; omega) (((he.take k).below hb (Nat.le_refl _)).mono hb.size)
    rwa [show (L.take k).length = k by rw [List.length_take]; omega] at this
  obtain ⟨n, hn⟩ : ∃ n, n = L.length := ⟨_, rfl⟩
  rw [← hn] at HK hl hc ⊢
  unfold trV at HK ⊢
  have HN := Lib.hid hn
  clear ht hT hV hS he HC hn
  by_cases h2 : 2000 < n
  · have i1 : (2000 : Int) < (n : Int) := by omega
    clear h2 hl HK
    go_enter Tryd.func5, Tryd.ntmps5
    go_wp2_with fail
    have h0 : Below w.heap.size w (w.alloc (.cells #[.int .i64 T, .int .i64 V, .int .i64 S, .slice A n c] 35)) := (Below.refl _ _).alloc (Nat.le_refl _) _
    refine (HW.out _ h0).mono ?_
    rintro _ w1 ⟨rfl, b1⟩
    have x3 : w1.cell? ⟨w.heap.size, 3, none⟩ = some (.slice A n c) := (b1.cell (by simp)).trans (World.cell?_alloc_mark w #[.int .i64 T, .int .i64 V, .int .i64 S, .slice A n c] 35 (0, 0) 3)
    have B1 : Hid (Below w.heap.size w w1) := h0.trans (b1.mono h0.size)
    clear b1 h0
    go_wp2_with fail
    refine (HW.out _ B1.out).mono ?_
    rintro _ w2 ⟨rfl, b2⟩
    have B2 : Hid (Below w.heap.size w w2) := B1.out.trans (b2.mono B1.out.size)
    clear b2 x3
    go_wp2_with fail
    go_ret
    exact ⟨rfl, B2.out⟩
  · have i1 : (n : Int) ≤ 2000 := by omega
    have HK2 := Lib.hid (HK.out (by omega))
    have hKn := HK2.out n c (Nat.le_refl _)
    rw [HN.out, List.take_length, ← HN.out] at hKn
    have HKN := Lib.hid hKn
    clear HK hKn
    by_cases hsz : size13 T V S = false
    · have hcf := check_size T V S L hsz
      rw [hcf] at HKN
      clear hsz hcf HK2
      go_enter Tryd.func5, Tryd.ntmps5
      go_wp2_with fail
      have h0 : Below w.heap.size w (w.alloc (.cells #[.int .i64 T, .int .i64 V, .int .i64 S, .slice A n c] 35)) := (Below.refl _ _).alloc (Nat.le_refl _) _
      refine (HW.out _ h0).mono ?_
      rintro _ w1 ⟨rfl, b1⟩
      have r1 : w1.heap[w.heap.size]? = some (.cells #[.int .i64 T, .int .i64 V, .int .i64 S, .slice A n c] 35) := (b1.block _ (by simp)).trans (heap_alloc_new w _)
      have x0 := cell_of_row w1 _ 0 _ _ _ r1
      have x1 := cell_of_row w1 _ 1 _ _ _ r1
      have x2 := cell_of_row w1 _ 2 _ _ _ r1
      have x3 := cell_of_row w1 _ 3 _ _ _ r1
      simp only [List.getElem?_toArray, List.getElem?_cons_zero, List.getElem?_cons_succ] at x0 x1 x2 x3
      have B1 : Hid (Below w.heap.size w w1) := h0.trans (b1.mono h0.size)
      have R1 := Lib.hid r1
      clear b1 h0 r1
      go_wp2_with fail
      refine (HKN.out _ B1.out).mono ?_
      rintro _ w2 ⟨rfl, b2⟩
      have B2 : Hid (Below w.heap.size w w2) := B1.out.trans (b2.mono B1.out.size)
      clear b2 x0 x1 x2 x3 R1
      go_wp2_with fail
      go_ret
      exact ⟨rfl, B2.out⟩
    · have hsz' : size13 T V S = true := by simpa using hsz
      have HT := Lib.hid (fun k hk => check_take T V S L hsz' (by have := HN.out; omega) k hk)
      have hcc := check_code T V S L (by have := HN.out; omega)
      have hne1 : (checkF T V S L).2 ≠ 1 := by
        rcases check_cases T V S L hsz' (by have := HN.out; omega) with ⟨h, _⟩ | ⟨_, _, _, _, _, h⟩ <;> rw [h] <;> simp
      obtain ⟨m, hm⟩ : ∃ m, m = (checkF T V S L).1 := ⟨_, rfl⟩
      obtain ⟨z, hz⟩ : ∃ z, z = (checkF T V S L).2 := ⟨_, rfl⟩
      rw [← hm, ← hz] at HKN hcc
      rw [← hz] at hne1
      have HT2 : Hid (∀ k, k ≤ n → checkF T V S (L.take k) = if k ≤ m then (k, 0) else (m, 4)) := fun k hk => by rw [hm]; exact HT.out k (by rw [← HN.out]; exact hk)
      rw [← HN.out] at hcc
      obtain ⟨r, hr⟩ : ∃ r, r = modW y ((n : Int) + 1) := ⟨_, rfl⟩
      obtain ⟨ma, ha0, ha1⟩ := modW_wrap y ((n : Int) + 1) (by omega) (by omega)
      rw [← hr] at ma ha0 ha1
      obtain ⟨k, rfl⟩ : ∃ k : Nat, r = k := ⟨r.toNat, by omega⟩
      have hkn : k ≤ n := by omega
      have hKk := HK2.out k c hkn
      rw [HT2.out k hkn] at hKk
      have e1 : IntKind.i64.wrap ((n : Int) + 1) = (n : Int) + 1 := IntWalk.i64_in _ ⟨by omega, by omega⟩
      have e2 : IntKind.u64.wrap ((n : Int) + 1) = (n : Int) + 1 := IntWalk.u64_in _ ⟨by omega, by omega⟩
      have e3 : ((n : Int) + 1 == 0) = false := beq_eq_false_iff_ne.2 (by omega)
      have HKK := Lib.hid hKk
      clear hsz hsz' HT hm hz hr HT2 hKk HK2
      have hz04 : (z = 0 ∧ m = n) ∨ (z = 4 ∧ m < n) := by
        rcases hcc with h | h | h
        · exact .inl h
        · exact absurd h.1 hne1
        · exact .inr h
      clear hcc hne1
      cases A with
      | none =>
        obtain rfl := hc0 rfl
        obtain rfl : n = 0 := by omega
        obtain rfl : k = 0 := by omega
        obtain ⟨rfl, rfl⟩ : z = 0 ∧ m = 0 := by omega
        rw [if_pos (Nat.le_refl _)] at HKK
        simp only [Int.ofNat_zero] at HKK HKN
        clear hz04
        unfold Yes
        go_enter Tryd.func5, Tryd.ntmps5
        go_wp2_with fail
        have h0 : Below w.heap.size w (w.alloc (.cells #[.int .i64 T, .int .i64 V, .int .i64 S, .slice none 0 0] 35)) := (Below.refl _ _).alloc (Nat.le_refl _) _
        refine (HW.out _ h0).mono ?_
        rintro _ w1 ⟨rfl, b1⟩
        have r1 : w1.heap[w.heap.size]? = some (.cells #[.int .i64 T, .int .i64 V, .int .i64 S, .slice none 0 0] 35) := (b1.block _ (by simp)).trans (heap_alloc_new w _)
        have x0 := cell_of_row w1 _ 0 _ _ _ r1
        have x1 := cell_of_row w1 _ 1 _ _ _ r1
        have x2 := cell_of_row w1 _ 2 _ _ _ r1
        have x3 := cell_of_row w1 _ 3 _ _ _ r1
        simp only [List.getElem?_toArray, List.getElem?_cons_zero, List.getElem?_cons_succ] at x0 x1 x2 x3
        have B1 : Hid (Below w.heap.size w w1) := h0.trans (b1.mono h0.size)
        have R1 := Lib.hid r1
        clear b1 h0 r1
        go_wp2_with fail
        refine (HKN.out _ B1.out).mono ?_
        rintro _ w2 ⟨rfl, b2⟩
        have B2 : Hid (Below w.heap.size w w2) := B1.out.trans (b2.mono B1.out.size)
        have r2 := row_stays R1.out b2
        have x0 := cell_of_row w2 _ 0 _ _ _ r2
        have x1 := cell_of_row w2 _ 1 _ _ _ r2
        have x2 := cell_of_row w2 _ 2 _ _ _ r2
        have x3 := cell_of_row w2 _ 3 _ _ _ r2
        simp only [List.getElem?_toArray, List.getElem?_cons_zero, List.getElem?_cons_succ] at x0 x1 x2 x3
        have x3a := (((Below.refl _ w2).alloc (Nat.le_refl _) (.cells #[.int .i64 T, .int .i64 V, .int .i64 S, .slice none 0 0] 35)).cell (there_blockW x3)).trans x3
        clear b2 r2 R1
        go_wp2_with fail
        refine (HKK.out _ ?below).mono ?_
        case below => exact B2.out.alloc B2.out.size _
        rintro _ w3 ⟨rfl, b3⟩
        have B3 : Hid (Below w.heap.size w w3) := (B2.out.alloc B2.out.size _).trans (b3.mono (B2.out.alloc B2.out.size _).size)
        clear b3 x0 x1 x2 x3 x3a
        go_wp2_with fail
        go_ret
        exact ⟨rfl, B3.out⟩
      | some a =>
        rcases hz04 with ⟨rfl, rfl⟩ | ⟨rfl, hmn⟩
        · rw [if_pos hkn] at HKK
          unfold Yes
          go_enter Tryd.func5, Tryd.ntmps5
          go_wp2_with fail
          have h0 : Below w.heap.size w (w.alloc (.cells #[.int .i64 T, .int .i64 V, .int .i64 S, .slice (some a) m c] 35)) := (Below.refl _ _).alloc (Nat.le_refl _) _
          refine (HW.out _ h0).mono ?_
          rintro _ w1 ⟨rfl, b1⟩
          have r1 : w1.heap[w.heap.size]? = some (.cells #[.int .i64 T, .int .i64 V, .int .i64 S, .slice (some a) m c] 35) := (b1.block _ (by simp)).trans (heap_alloc_new w _)
          have x0 := cell_of_row w1 _ 0 _ _ _ r1
          have x1 := cell_of_row w1 _ 1 _ _ _ r1
          have x2 := cell_of_row w1 _ 2 _ _ _ r1
          have x3 := cell_of_row w1 _ 3 _ _ _ r1
          simp only [List.getElem?_toArray, List.getElem?_cons_zero, List.getElem?_cons_succ] at x0 x1 x2 x3
          have B1 : Hid (Below w.heap.size w w1) := h0.trans (b1.mono h0.size)
          have R1 := Lib.hid r1
          clear b1 h0 r1
          go_wp2_with fail
          refine (HKN.out _ B1.out).mono ?_
          rintro _ w2 ⟨rfl, b2⟩
          have B2 : Hid (Below w.heap.size w w2) := B1.out.trans (b2.mono B1.out.size)
          have r2 := row_stays R1.out b2
          have x0 := cell_of_row w2 _ 0 _ _ _ r2
          have x1 := cell_of_row w2 _ 1 _ _ _ r2
          have x2 := cell_of_row w2 _ 2 _ _ _ r2
          have x3 := cell_of_row w2 _ 3 _ _ _ r2
          simp only [List.getElem?_toArray, List.getElem?_cons_zero, List.getElem?_cons_succ] at x0 x1 x2 x3
          have x3a := (((Below.refl _ w2).alloc (Nat.le_refl _) (.cells #[.int .i64 T, .int .i64 V, .int .i64 S, .slice (some a) m c] 35)).cell (there_blockW x3)).trans x3
          clear b2 r2 R1
          go_wp2_with fail
          refine (HKK.out _ ?below).mono ?_
          case below => exact B2.out.alloc B2.out.size _
          rintro _ w3 ⟨rfl, b3⟩
          have B3 : Hid (Below w.heap.size w w3) := (B2.out.alloc B2.out.size _).trans (b3.mono (B2.out.alloc B2.out.size _).size)
          clear b3 x0 x1 x2 x3 x3a
          go_wp2_with fail
          go_ret
          exact ⟨rfl, B3.out⟩
        · have hmn2 : (m : Int) < (n : Int) := by omega
          by_cases hkm : k ≤ m
          · rw [if_pos hkm] at HKK
            have hkm2 : (k : Int) ≤ (m : Int) := by omega
            unfold Yes
            go_enter Tryd.func5, Tryd.ntmps5
            go_wp2_with fail
            have h0 : Below w.heap.size w (w.alloc (.cells #[.int .i64 T, .int .i64 V, .int .i64 S, .slice (some a) n c] 35)) := (Below.refl _ _).alloc (Nat.le_refl _) _
            refine (HW.out _ h0).mono ?_
            rintro _ w1 ⟨rfl, b1⟩
            have r1 : w1.heap[w.heap.size]? = some (.cells #[.int .i64 T, .int .i64 V, .int .i64 S, .slice (some a) n c] 35) := (b1.block _ (by simp)).trans (heap_alloc_new w _)
            have x0 := cell_of_row w1 _ 0 _ _ _ r1
            have x1 := cell_of_row w1 _ 1 _ _ _ r1
            have x2 := cell_of_row w1 _ 2 _ _ _ r1
            have x3 := cell_of_row w1 _ 3 _ _ _ r1
            simp only [List.getElem?_toArray, List.getElem?_cons_zero, List.getElem?_cons_succ] at x0 x1 x2 x3
            have B1 : Hid (Below w.heap.size w w1) := h0.trans (b1.mono h0.size)
            have R1 := Lib.hid r1
            clear b1 h0 r1
            go_wp2_with fail
            refine (HKN.out _ B1.out).mono ?_
            rintro _ w2 ⟨rfl, b2⟩
            have B2 : Hid (Below w.heap.size w w2) := B1.out.trans (b2.mono B1.out.size)
            have r2 := row_stays R1.out b2
            have x0 := cell_of_row w2 _ 0 _ _ _ r2
            have x1 := cell_of_row w2 _ 1 _ _ _ r2
            have x2 := cell_of_row w2 _ 2 _ _ _ r2
            have x3 := cell_of_row w2 _ 3 _ _ _ r2
            simp only [List.getElem?_toArray, List.getElem?_cons_zero, List.getElem?_cons_succ] at x0 x1 x2 x3
            have x3a := (((Below.refl _ w2).alloc (Nat.le_refl _) (.cells #[.int .i64 T, .int .i64 V, .int .i64 S, .slice (some a) n c] 35)).cell (there_blockW x3)).trans x3
            clear b2 r2 R1
            go_wp2_with fail
            refine (HKK.out _ ?below).mono ?_
            case below => exact B2.out.alloc B2.out.size _
            rintro _ w3 ⟨rfl, b3⟩
            have B3 : Hid (Below w.heap.size w w3) := (B2.out.alloc B2.out.size _).trans (b3.mono (B2.out.alloc B2.out.size _).size)
            clear b3 x0 x1 x2 x3 x3a
            go_wp2_with fail
            go_ret
            exact ⟨rfl, B3.out⟩
          · rw [if_neg hkm] at HKK
            have hkm2 : (m : Int) < (k : Int) := by omega
            unfold Yes
            go_enter Tryd.func5, Tryd.ntmps5
            go_wp2_with fail
            have h0 : Below w.heap.size w (w.alloc (.cells #[.int .i64 T, .int .i64 V, .int .i64 S, .slice (some a) n c] 35)) := (Below.refl _ _).alloc (Nat.le_refl _) _
            refine (HW.out _ h0).mono ?_
            rintro _ w1 ⟨rfl, b1⟩
            have r1 : w1.heap[w.heap.size]? = some (.cells #[.int .i64 T, .int .i64 V, .int .i64 S, .slice (some a) n c] 35) := (b1.block _ (by simp)).trans (heap_alloc_new w _)
            have x0 := cell_of_row w1 _ 0 _ _ _ r1
            have x1 := cell_of_row w1 _ 1 _ _ _ r1
            have x2 := cell_of_row w1 _ 2 _ _ _ r1
            have x3 := cell_of_row w1 _ 3 _ _ _ r1
            simp only [List.getElem?_toArray, List.getElem?_cons_zero, List.getElem?_cons_succ] at x0 x1 x2 x3
            have B1 : Hid (Below w.heap.size w w1) := h0.trans (b1.mono h0.size)
            have R1 := Lib.hid r1
            clear b1 h0 r1
            go_wp2_with fail
            refine (HKN.out _ B1.out).mono ?_
            rintro _ w2 ⟨rfl, b2⟩
            have B2 : Hid (Below w.heap.size w w2) := B1.out.trans (b2.mono B1.out.size)
            have r2 := row_stays R1.out b2
            have x0 := cell_of_row w2 _ 0 _ _ _ r2
            have x1 := cell_of_row w2 _ 1 _ _ _ r2
            have x2 := cell_of_row w2 _ 2 _ _ _ r2
            have x3 := cell_of_row w2 _ 3 _ _ _ r2
            simp only [List.getElem?_toArray, List.getElem?_cons_zero, List.getElem?_cons_succ] at x0 x1 x2 x3
            have x3a := (((Below.refl _ w2).alloc (Nat.le_refl _) (.cells #[.int .i64 T, .int .i64 V, .int .i64 S, .slice (some a) n c] 35)).cell (there_blockW x3)).trans x3
            clear b2 r2 R1
            go_wp2_with fail
            refine (HKK.out _ ?below).mono ?_
            case below => exact B2.out.alloc B2.out.size _
            rintro _ w3 ⟨rfl, b3⟩
            have B3 : Hid (Below w.heap.size w w3) := (B2.out.alloc B2.out.size _).trans (b3.mono (B2.out.alloc B2.out.size _).size)
            clear b3 x0 x1 x2 x3 x3a
            go_wp2_with fail
            go_ret
            exact ⟨rfl, B3.out⟩
end Go.Proofs.YtnkkakcnlcmikaaDoor
