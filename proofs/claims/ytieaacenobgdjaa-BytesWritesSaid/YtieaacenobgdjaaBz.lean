/-
  CONTRACTS OF seesawref02's READER, the rest (layer 2): Int, End, Fail come to the same plain answers as package bytes' own. Conditions: texts of at most 2^24 bytes; integers within their kinds.
-/
import Derived.Test.YtieaacenobgdjaaBy
namespace Go.Proofs.Ytieaacenobgdjaa
open Go.RowKit
set_option linter.unusedVariables false
theorem rref_int (g : Nat) (s : ByteArray) (at_ : Nat) (wr : Int) (w : World) (h : RRd w g s at_ wr) :
    Calls Try.prog 31 #[.pointer (some ⟨g, 0, none⟩)] w (RRdPost (.int .i64 (rInt s at_ wr).1) (rInt s at_ wr).2.1 g s (rInt s at_ wr).2.2.1 (rInt s at_ wr).2.2.2 w) := by
  have H := rref_num 18446744073709551615 g s at_ wr w h
  unfold rNum at H
  unfold rInt
  have bad : ∀ er : Int, er ≠ 0 → Calls Try.prog 29 #[.pointer (some ⟨g, 0, none⟩), .int .u64 18446744073709551615] w (RRdPost (.int .u64 0) er g s at_ er w) →
      Calls Try.prog 31 #[.pointer (some ⟨g, 0, none⟩)] w (RRdPost (.int .i64 0) er g s at_ er w) := by
    intro er her hr
    have hb : (er != 0) = true := by simpa using her
    have Hr := Lib.hid hr
    clear hr H her h
    go_enter Try.func31, Try.ntmps31
    go_wp2_with fail
    refine Hr.out.mono ?_
    rintro e w' ⟨rfl, r1, r2⟩
    go_wp2_with fail
    go_ret2
    exact ⟨rfl, r1, r2⟩
  by_cases hw : wr = 0
  · subst hw
    have hsm := get_small (s.data.toList.drop at_)
    rcases hg : Vm.get (s.data.toList.drop at_) with ⟨n, size, er⟩
    rw [hg] at hsm
    by_cases he : er = 0
    · subst he
      have e1 : tInt (s.data.toList.drop at_) = (zagV n, size, 0) := by unfold tInt; rw [hg]; simp
      have e2 : tNum 18446744073709551615 (s.data.toList.drop at_) = ((n : Int), size, 0) := by
        unfold tNum
        rw [hg]
        simp only [if_true]
        rw [if_neg (by omega)]
      rw [e2, rd_k rfl] at H
      rw [e1, rd_k rfl]
      have Hr := Lib.hid H
      clear H bad h e1 e2 hg
      have hn1 : (n : Int) ≤ 18446744073709551615 := by omega
      have Hz := Lib.hid (fun W => rzag_v n (by omega) hn1 W)
      clear hn1 hsm
      go_enter Try.func31, Try.ntmps31
      go_wp2_with fail
      refine Hr.out.mono ?_
      rintro e w' ⟨rfl, r1, r2⟩
      go_wp2_with fail
      refine (Hz.out _).mono ?_
      rintro e w3 ⟨rfl, rfl⟩
      go_wp2_with fail
      go_ret2
      exact ⟨rfl, r1, r2⟩
    · have he' : (er : Int) ≠ 0 := by omega
      have e1 : tInt (s.data.toList.drop at_) = (0, 0, (er : Int)) := by unfold tInt; rw [hg]; simp [he]
      have e2 : tNum 18446744073709551615 (s.data.toList.drop at_) = (0, 0, (er : Int)) := by unfold tNum; rw [hg]; simp [he]
      rw [e2, rd_e (by exact he')] at H
      rw [e1, rd_e (by exact he')]
      exact bad er he' H
  · rw [rd_w hw] at H
    rw [rd_w hw]
    exact bad wr hw H
theorem rref_end (g : Nat) (s : ByteArray) (at_ : Nat) (wr : Int) (w : World) (h : RRd w g s at_ wr) :
    Calls Try.prog 37 #[.pointer (some ⟨g, 0, none⟩)] w (RSet (rEnd s at_ wr).2.1 g s (rEnd s at_ wr).2.2.1 (rEnd s at_ wr).2.2.2 w) := by
  have H := Lib.hid h
  have c2 := h.1.cell 2
  simp at c2
  have dl := drop_len s at_
  have Hl := Lib.hid (ref_left g s at_ wr w h)
  unfold rEnd
  by_cases hw : wr = 0
  · subst hw
    by_cases hl : s.data.toList.drop at_ = []
    · have e : tEnd (s.data.toList.drop at_) = (0, 0, 0) := by unfold tEnd; rw [if_pos hl]
      rw [e, rd_k rfl]
      rw [hl] at dl
      have hz : s.size - at_ = 0 := by simpa using dl.symm
      rw [hz] at Hl
      clear e hl dl hz h
      go_enter Try.func37, Try.ntmps37
      go_wp2_with fail
      refine Hl.out.mono ?_
      rintro e w' ⟨rfl, n, rfl⟩
      go_wp2_with fail
      go_ret
      exact ⟨rfl, rrd_drew H.out _, kp_below (drewN_below w _)⟩
    · have e : tEnd (s.data.toList.drop at_) = (0, 0, 10) := by unfold tEnd; rw [if_neg hl]
      rw [e, rd_e (by decide)]
      have hp : 0 < (s.data.toList.drop at_).length := List.length_pos_iff.2 hl
      obtain ⟨k, hk⟩ : ∃ k, k = s.size - at_ := ⟨_, rfl⟩
      rw [← hk] at Hl
      have hk0 : 0 < k := by omega
      clear e hl dl h hk hp
      go_enter Try.func37, Try.ntmps37
      go_wp2_with fail
      refine Hl.out.mono ?_
      rintro e w' ⟨rfl, n, rfl⟩
      go_wp2_with fail
      refine (ref_set 10 g s at_ 0 _ (rrd_drew H.out _)).mono ?_
      rintro e w' ⟨rfl, r1, r2⟩
      go_wp2_with fail
      go_ret
      exact ⟨rfl, r1, Kp.of_below (drewN_below w _) r2⟩
  · rw [rd_w hw]
    have hb : (wr == 0) = false := by simpa using hw
    clear hw dl h Hl
    go_enter Try.func37, Try.ntmps37
    go_wp2_with fail
    go_ret
    exact ⟨rfl, H.out, kp_below (Below.refl _ _)⟩
theorem rref_fail (place er : Int) (g : Nat) (s : ByteArray) (at_ : Nat) (wr : Int) (w : World) (h : RRd w g s at_ wr) :
    Calls Try.prog 35 #[.pointer (some ⟨g, 0, none⟩), .int .i64 place, .int .i64 er] w (RSet (rFail place er at_ wr).1 g s (rFail place er at_ wr).2.1 (rFail place er at_ wr).2.2 w) := by
  unfold rFail
  have c1 := h.1.cell 1
  have c2 := h.1.cell 2
  simp at c1 c2
  have f1 := h.1.free 1
  have H := Lib.hid h
  clear h
  by_cases hw : wr = 0
  · subst hw
    rw [if_pos rfl]
    by_cases hp : place < 0 ∨ (at_ : Int) < place ∨ er = 0
    · rw [if_pos hp]
      have hpost : RSet 1 g s at_ 0 w (.returned (.int .i64 1)) w := ⟨rfl, H.out, kp_below (Below.refl _ _)⟩
      have HP := Lib.hid hpost
      clear hpost
      by_cases h0 : place < 0
      · clear hp
        go_enter Try.func35, Try.ntmps35
        go_wp2_with fail
        go_ret
        exact HP.out
      · by_cases h1 : (at_ : Int) < place
        · clear hp
          have h0' : 0 ≤ place := by omega
          go_enter Try.func35, Try.ntmps35
          go_wp2_with fail
          go_ret
          exact HP.out
        · obtain rfl : er = 0 := by omega
          have h0' : 0 ≤ place := by omega
          have h1' : place ≤ (at_ : Int) := by omega
          clear hp h0 h1
          go_enter Try.func35, Try.ntmps35
          go_wp2_with fail
          go_ret
          exact HP.out
    · rw [if_neg hp]
      have h0 : 0 ≤ place := by omega
      have h1 : place ≤ (at_ : Int) := by omega
      have h2 : (er == 0) = false := by simp; omega
      obtain ⟨k, rfl⟩ := Int.eq_ofNat_of_zero_le h0
      rw [Int.toNat_natCast]
      have hk : k ≤ s.size := by have := H.out.2.1; omega
      have r0 : RRd (w.setCell ⟨g, 1, none⟩ (.int .i64 (k : Int))) g s k 0 ∧ Kp g none w (w.setCell ⟨g, 1, none⟩ (.int .i64 (k : Int))) :=
        ⟨⟨by simpa using H.out.1.store 1 (.int .i64 (k : Int)), hk, H.out.2.2⟩, ⟨rfl, rfl, rfl, by simp [World.setCell], fun i hi hg _ => Below.heap_setCell _ _ _ _ hg⟩⟩
      have R0 := Lib.hid r0
      clear hp r0 hk
      go_enter Try.func35, Try.ntmps35
      go_wp2_with fail
      refine (ref_set er g s k 0 _ R0.out.1).mono ?_
      rintro e w' ⟨rfl, r1, r2⟩
      go_wp2_with fail
      go_ret
      exact ⟨rfl, r1, R0.out.2.trans r2⟩
  · rw [if_neg hw]
    have hb : (wr != 0) = true := by simpa using hw
    clear hw
    go_enter Try.func35, Try.ntmps35
    go_wp2_with fail
    go_ret
    exact ⟨rfl, H.out, kp_below (Below.refl _ _)⟩
end Go.Proofs.Ytieaacenobgdjaa
