/-
  CONTRACTS OF seesawref02's READER (layer 2): Raw, Byte, Num, Int, End, Fail by the document's words come to the same plain answers as package bytes' own ('rRaw', 'rByte', ..). Conditions: texts of at most 2^24 bytes; integers within their kinds.
-/
import Derived.Test.YtieaacenobgdjaaBx
namespace Go.Proofs.Ytieaacenobgdjaa
open Go.RowKit
set_option linter.unusedVariables false
theorem rrd_drew {w : World} {g : Nat} {s : ByteArray} {at_ : Nat} {wr : Int} (h : RRd w g s at_ wr) (n : Nat) : RRd (w.drewN n) g s at_ wr := h
theorem ext_piece (s : ByteArray) (a n : Nat) : s.extract a (a + n) = bs ((s.data.toList.drop a).take n) := by
  rw [extract_bs, List.drop_take]
  rw [show a + n - a = n by omega]

theorem rref_raw (n : Int) (h1 : n ≤ 9223372036854775807) (g : Nat) (s : ByteArray) (at_ : Nat) (wr : Int) (w : World) (h : RRd w g s at_ wr) :
    Calls Try.prog 33 #[.pointer (some ⟨g, 0, none⟩), .int .i64 n] w (RRdPost (.string (rRaw n s at_ wr).1) (rRaw n s at_ wr).2.1 g s (rRaw n s at_ wr).2.2.1 (rRaw n s at_ wr).2.2.2 w) := by
  have H := Lib.hid h
  obtain ⟨ho, h2, h3⟩ := h
  have c0 := ho.cell 0
  have c1 := ho.cell 1
  have c2 := ho.cell 2
  simp at c0 c1 c2
  have f1 := ho.free 1
  have dl := drop_len s at_
  clear ho
  unfold rRaw
  by_cases hw : wr = 0
  · subst hw
    by_cases hn : n < 0
    · have e : tRaw n (s.data.toList.drop at_) = (bs [], 0, 1) := by unfold tRaw; rw [if_pos hn]
      rw [e, rd_e (by decide)]
      clear e dl
      go_enter Try.func33, Try.ntmps33
      go_wp2_with fail
      refine (ref_set 1 g s at_ 0 _ H.out).mono ?_
      rintro e w' ⟨rfl, r1, r2⟩
      go_wp2_with fail
      go_ret2
      exact ⟨rfl, r1, r2⟩
    · have hn0 : 0 ≤ n := by omega
      by_cases hl : ((s.data.toList.drop at_).length : Int) < n
      · have e : tRaw n (s.data.toList.drop at_) = (bs [], 0, 8) := by unfold tRaw; rw [if_neg hn, if_pos hl]
        rw [e, rd_e (by decide)]
        have hl' : (s.size : Int) - (at_ : Int) < n := by omega
        clear e dl hl hn
        go_enter Try.func33, Try.ntmps33
        go_wp2_with fail
        go_quiet (fail)
        go_wp2_with fail
        refine (ref_set 8 g s at_ 0 _ (rrd_drew H.out _)).mono ?_
        rintro e w' ⟨rfl, r1, r2⟩
        go_wp2_with fail
        go_ret2
        exact ⟨rfl, r1, Kp.of_below (drewN_below w _) r2⟩
      · have e : tRaw n (s.data.toList.drop at_) = (bs ((s.data.toList.drop at_).take n.toNat), n.toNat, 0) := by unfold tRaw; rw [if_neg hn, if_neg hl]
        rw [e, rd_k rfl]
        obtain ⟨k, rfl⟩ := Int.eq_ofNat_of_zero_le hn0
        rw [Int.toNat_natCast]
        have hl' : (k : Int) ≤ (s.size : Int) - (at_ : Int) := by omega
        have hk : at_ + k ≤ s.size := by omega
        rw [← ext_piece]
        have hk1 : ((at_ : Int) + (k : Int)) ≤ (s.size : Int) := by omega
        have hk2 : (at_ : Int) ≤ (at_ : Int) + (k : Int) := by omega
        have hk3 : IntKind.i64.wrap ((at_ : Int) + (k : Int)) = (at_ : Int) + (k : Int) := IntWalk.i64_in _ ⟨by omega, by omega⟩
        have hk4 : ((at_ : Int) + (k : Int)).toNat = at_ + k := by omega
        have hk5 : 0 ≤ (at_ : Int) + (k : Int) := by omega
        clear e dl hl hn
        go_enter Try.func33, Try.ntmps33
        go_wp2_with fail
        go_quiet (fail)
        go_wp2_with fail
        go_quiet (fail)
        go_wp2_with fail
        go_ret2
        have R := rrd_go (size := k) (z := (at_ : Int) + (k : Int)) H.out (Below.refl _ w) (by omega) hk
        exact ⟨rfl, R.1, ⟨R.2.os, R.2.tape, R.2.output, R.2.size, R.2.block⟩⟩
  · rw [rd_w hw]
    have hb : (wr != 0) = true := by simpa using hw
    clear hw dl
    go_enter Try.func33, Try.ntmps33
    go_wp2_with fail
    go_quiet (fail)
    go_wp2_with fail
    go_ret2
    exact ⟨rfl, rrd_drew H.out _, kp_below (drewN_below w _)⟩

theorem rref_byte (g : Nat) (s : ByteArray) (at_ : Nat) (wr : Int) (w : World) (h : RRd w g s at_ wr) :
    Calls Try.prog 27 #[.pointer (some ⟨g, 0, none⟩)] w (RRdPost (.int .u8 (rByte s at_ wr).1) (rByte s at_ wr).2.1 g s (rByte s at_ wr).2.2.1 (rByte s at_ wr).2.2.2 w) := by
  have H := rref_raw 1 (by omega) g s at_ wr w h
  unfold rRaw at H
  unfold rByte
  have bad : ∀ er : Int, er ≠ 0 → Calls Try.prog 33 #[.pointer (some ⟨g, 0, none⟩), .int .i64 1] w (RRdPost (.string (bs [])) er g s at_ er w) →
      Calls Try.prog 27 #[.pointer (some ⟨g, 0, none⟩)] w (RRdPost (.int .u8 0) er g s at_ er w) := by
    intro er her hr
    have hb : (er != 0) = true := by simpa using her
    have Hr := Lib.hid hr
    clear hr H her h
    go_enter Try.func27, Try.ntmps27
    go_wp2_with fail
    refine Hr.out.mono ?_
    rintro e w' ⟨rfl, r1, r2⟩
    go_wp2_with fail
    go_ret2
    exact ⟨rfl, r1, r2⟩
  by_cases hw : wr = 0
  · subst hw
    rcases hl : s.data.toList.drop at_ with _ | ⟨b, l⟩
    · rw [hl] at H
      rw [rd_e (by decide)]
      have e : tRaw 1 [] = (bs [], 0, 8) := rfl
      rw [e, rd_e (by decide)] at H
      exact bad 8 (by decide) H
    · rw [hl] at H
      have e : tRaw 1 (b :: l) = (bs [b], 1, 0) := by
        unfold tRaw
        rw [if_neg (by decide), if_neg (by simp; omega)]
        rfl
      rw [e, rd_k rfl] at H
      rw [rd_k rfl]
      have Hr := Lib.hid H
      have h0 : (bs [b])[0]? = some b := rfl
      have hz : 0 < (bs [b]).size := by simp [bs_size]
      clear H bad h
      go_enter Try.func27, Try.ntmps27
      go_wp2_with fail
      refine Hr.out.mono ?_
      rintro e w' ⟨rfl, r1, r2⟩
      go_wp2_with fail
      go_ret2
      exact ⟨rfl, r1, r2⟩
  · rw [rd_w hw] at H
    rw [rd_w hw]
    exact bad wr hw H

theorem rget_is (s : ByteArray) (n size e : Nat) (hs : s.size ≤ 9223372036854775807) (h : Vm.get s.data.toList = (n, size, e)) (w : World) :
    Calls Try.prog 53 #[.string s] w fun r w' => r = .returned (.tuple #[.int .u64 n, .int .i64 size, .int .i64 e]) ∧ w = w' := by
  have := rget_any s hs w
  unfold bytes at this
  rw [h] at this
  exact this
theorem rref_num (most : Int) (g : Nat) (s : ByteArray) (at_ : Nat) (wr : Int) (w : World) (h : RRd w g s at_ wr) :
    Calls Try.prog 29 #[.pointer (some ⟨g, 0, none⟩), .int .u64 most] w (RRdPost (.int .u64 (rNum most s at_ wr).1) (rNum most s at_ wr).2.1 g s (rNum most s at_ wr).2.2.1 (rNum most s at_ wr).2.2.2 w) := by
  have H := Lib.hid h
  obtain ⟨ho, h2, h3⟩ := h
  have c0 := ho.cell 0
  have c1 := ho.cell 1
  have c2 := ho.cell 2
  simp at c0 c1 c2
  have f1 := ho.free 1
  have dl := drop_len s at_
  clear ho
  unfold rNum
  by_cases hw : wr = 0
  · subst hw
    have hzz : (s.extract at_ s.size).size ≤ 16777216 := by rw [ext_size]; omega
    rcases hg : Vm.get (s.data.toList.drop at_) with ⟨n, size, er⟩
    have hg' : Vm.get (s.extract at_ s.size).data.toList = (n, size, er) := by rw [ext_drop]; exact hg
    have Hg := Lib.hid (fun W => rget_is (s.extract at_ s.size) n size er (by omega) hg' W)
    clear hg'
    by_cases he : er = 0
    · subst he
      have hk := get_ok hg
      by_cases hm : most < (n : Int)
      · have e : tNum most (s.data.toList.drop at_) = (0, 0, 20) := by unfold tNum; rw [hg]; simp [hm]
        rw [e, rd_e (by decide)]
        clear e hg hk dl hzz
        go_enter Try.func29, Try.ntmps29
        go_wp2_with fail
        go_quiet ((go_at_call 53; exact Calls.quiet_of_same ((Hg.out _).mono fun _ _ hh => ⟨hh.1, hh.2.symm⟩)))
        go_wp2_with fail
        refine (ref_set 20 g s at_ 0 _ (rrd_drew H.out _)).mono ?_
        rintro e w' ⟨rfl, r1, r2⟩
        go_wp2_with fail
        go_ret2
        exact ⟨rfl, r1, Kp.of_below (drewN_below w _) r2⟩
      · have e : tNum most (s.data.toList.drop at_) = ((n : Int), size, 0) := by unfold tNum; rw [hg]; simp [hm]
        rw [e, rd_k rfl]
        have hm' : (n : Int) ≤ most := by omega
        have hk1 : at_ + size ≤ s.size := by omega
        have hk2 : (at_ : Int) + (size : Int) ≤ 16777216 := by omega
        clear e hg hk dl hzz hm
        go_enter Try.func29, Try.ntmps29
        go_wp2_with fail
        go_quiet ((go_at_call 53; exact Calls.quiet_of_same ((Hg.out _).mono fun _ _ hh => ⟨hh.1, hh.2.symm⟩)))
        go_wp2_with fail
        go_ret2
        have R := rrd_go (size := size) (z := (at_ : Int) + (size : Int)) H.out (Below.refl _ w) (by omega) hk1
        exact ⟨rfl, R.1, ⟨R.2.os, R.2.tape, R.2.output, R.2.size, R.2.block⟩⟩
    · have e : tNum most (s.data.toList.drop at_) = (0, 0, (er : Int)) := by unfold tNum; rw [hg]; simp [he]
      have he' : (er : Int) ≠ 0 := by omega
      rw [e, rd_e (by exact he')]
      have hb : ((er : Int) != 0) = true := by simpa using he'
      clear e hg dl hzz he he'
      go_enter Try.func29, Try.ntmps29
      go_wp2_with fail
      go_quiet ((go_at_call 53; exact Calls.quiet_of_same ((Hg.out _).mono fun _ _ hh => ⟨hh.1, hh.2.symm⟩)))
      go_wp2_with fail
      refine (ref_set er g s at_ 0 _ (rrd_drew H.out _)).mono ?_
      rintro e w' ⟨rfl, r1, r2⟩
      go_wp2_with fail
      go_ret2
      exact ⟨rfl, r1, Kp.of_below (drewN_below w _) r2⟩
  · rw [rd_w hw]
    have hb : (wr != 0) = true := by simpa using hw
    clear hw dl
    go_enter Try.func29, Try.ntmps29
    go_wp2_with fail
    go_quiet (fail)
    go_wp2_with fail
    go_ret2
    exact ⟨rfl, rrd_drew H.out _, kp_below (drewN_below w _)⟩
end Go.Proofs.Ytieaacenobgdjaa
