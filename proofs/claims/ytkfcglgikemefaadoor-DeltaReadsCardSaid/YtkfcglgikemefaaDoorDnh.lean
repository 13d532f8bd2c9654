/-
  THE DOCUMENT'S CODER (layer 14), and DeltaWrites' drawn row: several texts in one: Bx, By, Bz, Dna, Dnb, Dnc, Dne, Dnd, Dng, Dnf, Dnh. Conditions: as they stand.
-/
import Derived.Test.YtkfcglgikemefaaDoorBk
import Derived.Test.YtkfcglgikemefaaDoorDlq
import Derived.Deep.WholeRow
import Derived.Deep.CutBlock
import Derived.Deep.DeepCutAuto
import Derived.Test.YtkfcglgikemefaaDoorDly
namespace Go.Proofs.YtkfcglgikemefaaDoor
set_option maxRecDepth 100000
open Go.RowKit
set_option linter.unusedVariables false

/-- At block g lies the document's writer of at most 'most' bytes that has the bytes l. -/
def RWr (w : World) (g : Nat) (most : Int) (l : List UInt8) : Prop := Obj w g 50 #[.int .i64 most, .string (bs l)] ∧ 0 ≤ most ∧ most ≤ 16777216 ∧ (l.length : Int) ≤ most
/-- At block g lies the document's reader. -/
def RRd (w : World) (g : Nat) (s : ByteArray) (at_ : Nat) (wr : Int) : Prop := Obj w g 64 #[.string s, .int .i64 at_, .int .i64 wr] ∧ at_ ≤ s.size ∧ s.size ≤ 16777216

theorem ref_writer (most : Int) (h0 : 0 ≤ most) (h1 : most ≤ 16777216) (w : World) :
    Calls Tryd.prog 12 #[.int .i64 most] w fun e w' => e = .returned (.tuple #[.pointer (some ⟨w.heap.size, 0, none⟩), .int .i64 0]) ∧ w' = w.alloc (.cells #[.int .i64 most, .string (bs [])] 50) := by
  go_enter Tryd.func12, Tryd.ntmps12
  go_wp2
  go_ret2
  exact ⟨rfl, rfl⟩
theorem ref_writer_bad (most : Int) (h0 : most < 0 ∨ 16777216 < most) (w : World) :
    Calls Tryd.prog 12 #[.int .i64 most] w fun e w' => e = .returned (.tuple #[.pointer none, .int .i64 1]) ∧ w = w' := by
  rcases h0 with h0 | h0
  all_goals
    go_enter Tryd.func12, Tryd.ntmps12
    go_wp2
    go_ret2
    exact ⟨rfl, rfl⟩
def RRawPost (g : Nat) (most : Int) (l s : List UInt8) (w : World) (e : Ending) (w' : World) : Prop :=
  e = .returned (.int .i64 (rawE most l s)) ∧ RWr w' g most (rawL most l s) ∧ Kp g none w w'
theorem bs_add (l : List UInt8) (s : ByteArray) : bs l ++ s = bs (l ++ s.data.toList) := by
  apply ByteArray.ext
  apply Array.toList_inj.1
  simp [bs, ByteArray.data_append]
theorem toL_len (s : ByteArray) : s.data.toList.length = s.size := by rw [Array.length_toList]; rfl
theorem ref_raw (g : Nat) (most : Int) (l : List UInt8) (s : ByteArray) (hs : s.size ≤ 281474976710656) (w : World) (h : RWr w g most l) :
    Calls Tryd.prog 37 #[.pointer (some ⟨g, 0, none⟩), .string s] w (RRawPost g most l s.data.toList w) := by
  obtain ⟨ho, m0, m1, hl⟩ := h
  have c0 := ho.cell 0
  have c1 := ho.cell 1
  simp at c0 c1
  have f1 := ho.free 1
  have hz := bs_size l
  have hzl : (bs l).size ≤ 16777216 := by omega
  by_cases hf : (l.length : Int) + s.size ≤ most
  · have hf' : ((bs l).size : Int) + s.size ≤ most := by omega
    have Ho := Lib.hid ho
    have Hz := Lib.hid hz
    clear hz ho
    go_enter Tryd.func37, Tryd.ntmps37
    go_wp2_with fail
    go_quiet (fail)
    go_wp2_with fail
    go_ret
    refine ⟨?_, ⟨?_, m0, m1, ?_⟩, ⟨rfl, rfl, rfl, by simp [World.setCell], fun i hi hg _ => Below.heap_setCell _ _ _ _ hg⟩⟩
    · rw [rawE, toL_len, if_pos hf]; rfl
    · have ho' := Ho.out.store 1 (.string (bs l ++ s))
      rw [rawL, toL_len, if_pos hf, ← bs_add]
      simp at ho'
      exact ho'
    · rw [rawL, toL_len, if_pos hf, List.length_append, toL_len]; omega
  · have hf' : most < ((bs l).size : Int) + s.size := by omega
    have Ho := Lib.hid ho
    clear hz ho
    go_enter Tryd.func37, Tryd.ntmps37
    go_wp2_with fail
    go_quiet (fail)
    go_wp2_with fail
    go_ret
    refine ⟨?_, ?_, kp_below (drewN_below w _)⟩
    · rw [rawE, toL_len, if_neg (by omega)]; rfl
    · rw [rawL, toL_len, if_neg (by omega)]; exact ⟨Ho.out, m0, m1, hl⟩

theorem rput_s (n : Nat) (hn : n < 18446744073709551616) (w : World) :
    Calls Tryd.prog 68 #[.int .u64 n] w fun e w' => e = .returned (.string (bs (Vm.put n))) ∧ Below w.heap.size w w' := rput_any 10 n (by omega) (Vm.lt_pow10 hn) hn (by omega) w
theorem ref_reader (s : ByteArray) (hs : s.size ≤ 16777216) (w : World) :
    Calls Tryd.prog 19 #[.string s] w fun e w' => e = .returned (.tuple #[.pointer (some ⟨w.heap.size, 0, none⟩), .int .i64 0]) ∧ w' = w.alloc (.cells #[.string s, .int .i64 0, .int .i64 0] 64) := by
  go_enter Tryd.func19, Tryd.ntmps19
  go_wp2
  go_ret2
  exact ⟨rfl, rfl⟩
theorem rrd_more {w w' : World} {g : Nat} {s : ByteArray} {a : Nat} {wr : Int} (h : RRd w g s a wr) (hb : Below w.heap.size w w') : RRd w' g s a wr := ⟨h.1.below hb h.1.lt, h.2⟩
theorem rrd_bad {w w3 : World} {g : Nat} {s : ByteArray} {at_ : Nat} {wr : Int} (er : Int) (h : RRd w g s at_ wr) (b3 : Below w.heap.size w w3) :
    RRd (w3.setCell ⟨g, 2, none⟩ (.int .i64 er)) g s at_ er ∧ Kp g none w (w3.setCell ⟨g, 2, none⟩ (.int .i64 er)) := by
  have o3 := h.1.below b3 h.1.lt
  refine ⟨⟨by simpa using o3.store 2 (.int .i64 er), h.2⟩, ⟨b3.os, b3.tape, b3.output, by simpa [World.setCell] using b3.size, fun i hi hg _ => ?_⟩⟩
  rw [Below.heap_setCell _ _ _ _ hg]
  exact b3.block i hi
theorem rrd_go {w w3 : World} {g : Nat} {s : ByteArray} {at_ size : Nat} {z wr : Int} (h : RRd w g s at_ wr) (b3 : Below w.heap.size w w3) (hz : z = ((at_ + size : Nat) : Int)) (h1 : at_ + size ≤ s.size) :
    RRd (w3.setCell ⟨g, 1, none⟩ (.int .i64 z)) g s (at_ + size) wr ∧ Kp g none w (w3.setCell ⟨g, 1, none⟩ (.int .i64 z)) := by
  subst hz
  have o3 := h.1.below b3 h.1.lt
  refine ⟨⟨by simpa using o3.store 1 (.int .i64 ((at_ + size : Nat) : Int)), h1, h.2.2⟩, ⟨b3.os, b3.tape, b3.output, by simpa [World.setCell] using b3.size, fun i hi hg _ => ?_⟩⟩
  rw [Below.heap_setCell _ _ _ _ hg]
  exact b3.block i hi
def RSet (er : Int) (g : Nat) (s : ByteArray) (a : Nat) (wr : Int) (w : World) (e : Ending) (w' : World) : Prop :=
  e = .returned (.int .i64 er) ∧ RRd w' g s a wr ∧ Kp g none w w'
def RRdPost (v : Value) (er : Int) (g : Nat) (s : ByteArray) (a : Nat) (wr : Int) (w : World) (e : Ending) (w' : World) : Prop :=
  e = .returned (.tuple #[v, .int .i64 er]) ∧ RRd w' g s a wr ∧ Kp g none w w'
theorem ref_set (er : Int) (g : Nat) (s : ByteArray) (at_ : Nat) (wr : Int) (w : World) (h : RRd w g s at_ wr) :
    Calls Tryd.prog 75 #[.pointer (some ⟨g, 0, none⟩), .int .i64 er] w (RSet er g s at_ er w) := by
  have c2 := h.1.cell 2
  simp at c2
  have f2 := h.1.free 2
  have H := Lib.hid h
  clear h
  go_enter Tryd.func75, Tryd.ntmps75
  go_wp2_with fail
  go_ret
  have R := rrd_bad er H.out (Below.refl _ w)
  exact ⟨rfl, R.1, R.2⟩
theorem rref_wrong_no (g : Nat) (s : ByteArray) (at_ : Nat) (w : World) (h : RRd w g s at_ 0) :
    Calls Tryd.prog 23 #[.pointer (some ⟨g, 0, none⟩)] w fun e w' => e = .returned (.tuple #[.int .i64 0, .int .i64 0]) ∧ w = w' := by
  have c2 := h.1.cell 2
  simp at c2
  clear h
  go_enter Tryd.func23, Tryd.ntmps23
  go_wp2
  go_ret2
  exact ⟨rfl, rfl⟩
theorem rref_wrong_yes (g : Nat) (s : ByteArray) (at_ : Nat) (wr : Int) (hw : wr ≠ 0) (w : World) (h : RRd w g s at_ wr) :
    Calls Tryd.prog 23 #[.pointer (some ⟨g, 0, none⟩)] w fun e w' => e = .returned (.tuple #[.int .i64 at_, .int .i64 wr]) ∧ ∃ n, w' = w.drewN n := by
  have c1 := h.1.cell 1
  have c2 := h.1.cell 2
  simp at c1 c2
  have hb : (wr == 0) = false := by simpa using hw
  clear h
  go_enter Tryd.func23, Tryd.ntmps23
  go_wp2_with fail
  go_quiet (fail)
  go_wp2_with fail
  go_ret2
  exact ⟨rfl, _, rfl⟩
end Go.Proofs.YtkfcglgikemefaaDoor
namespace Go.Proofs.YtkfcglgikemefaaDoor
set_option maxRecDepth 100000
open Go.RowKit
set_option linter.unusedVariables false
theorem rrd_drew {w : World} {g : Nat} {s : ByteArray} {at_ : Nat} {wr : Int} (h : RRd w g s at_ wr) (n : Nat) : RRd (w.drewN n) g s at_ wr := h
theorem ext_piece (s : ByteArray) (a n : Nat) : s.extract a (a + n) = bs ((s.data.toList.drop a).take n) := by
  rw [extract_bs, List.drop_take]
  rw [show a + n - a = n by omega]

theorem rget_is (s : ByteArray) (n size e : Nat) (hs : s.size ≤ 9223372036854775807) (h : Vm.get s.data.toList = (n, size, e)) (w : World) :
    Calls Tryd.prog 91 #[.string s] w fun r w' => r = .returned (.tuple #[.int .u64 n, .int .i64 size, .int .i64 e]) ∧ w = w' := by
  have := rget_any s hs w
  unfold bytes at this
  rw [h] at this
  exact this
theorem rref_num (most : Int) (g : Nat) (s : ByteArray) (at_ : Nat) (wr : Int) (w : World) (h : RRd w g s at_ wr) :
    Calls Tryd.prog 73 #[.pointer (some ⟨g, 0, none⟩), .int .u64 most] w (RRdPost (.int .u64 (rNum most s at_ wr).1) (rNum most s at_ wr).2.1 g s (rNum most s at_ wr).2.2.1 (rNum most s at_ wr).2.2.2 w) := by
  have H := Lib.hid h
  obtain ⟨ho, h2, h3⟩ := h
  have c0 := ho.cell 0
  have c1 := ho.cell 1
  have c2 := ho.cell 2
  simp at c0 c1 c2
  have f1 := ho.free 1
  have dl := drop_len s at_
  clear ho
  unfold rNum
  by_cases hw : wr = 0
  · subst hw
    have hzz : (s.extract at_ s.size).size ≤ 16777216 := by rw [ext_size]; omega
    rcases hg : Vm.get (s.data.toList.drop at_) with ⟨n, size, er⟩
    have hg' : Vm.get (s.extract at_ s.size).data.toList = (n, size, er) := by rw [ext_drop]; exact hg
    have Hg := Lib.hid (fun W => rget_is (s.extract at_ s.size) n size er (by omega) hg' W)
    clear hg'
    by_cases he : er = 0
    · subst he
      have hk := get_ok hg
      by_cases hm : most < (n : Int)
      · have e : tNum most (s.data.toList.drop at_) = (0, 0, 20) := by unfold tNum; rw [hg]; simp [hm]
        rw [e, rd_e (by decide)]
        clear e hg hk dl hzz
        go_enter Tryd.func73, Tryd.ntmps73
        go_wp2_with fail
        go_quiet ((go_at_call 91; exact Calls.quiet_of_same ((Hg.out _).mono fun _ _ hh => ⟨hh.1, hh.2.symm⟩)))
        go_wp2_with fail
        refine (ref_set 20 g s at_ 0 _ (rrd_drew H.out _)).mono ?_
        rintro e w' ⟨rfl, r1, r2⟩
        go_wp2_with fail
        go_ret2
        exact ⟨rfl, r1, Kp.of_below (drewN_below w _) r2⟩
      · have e : tNum most (s.data.toList.drop at_) = ((n : Int), size, 0) := by unfold tNum; rw [hg]; simp [hm]
        rw [e, rd_k rfl]
        have hm' : (n : Int) ≤ most := by omega
        have hk1 : at_ + size ≤ s.size := by omega
        have hk2 : (at_ : Int) + (size : Int) ≤ 16777216 := by omega
        clear e hg hk dl hzz hm
        go_enter Tryd.func73, Tryd.ntmps73
        go_wp2_with fail
        go_quiet ((go_at_call 91; exact Calls.quiet_of_same ((Hg.out _).mono fun _ _ hh => ⟨hh.1, hh.2.symm⟩)))
        go_wp2_with fail
        go_ret2
        have R := rrd_go (size := size) (z := (at_ : Int) + (size : Int)) H.out (Below.refl _ w) (by omega) hk1
        exact ⟨rfl, R.1, ⟨R.2.os, R.2.tape, R.2.output, R.2.size, R.2.block⟩⟩
    · have e : tNum most (s.data.toList.drop at_) = (0, 0, (er : Int)) := by unfold tNum; rw [hg]; simp [he]
      have he' : (er : Int) ≠ 0 := by omega
      rw [e, rd_e (by exact he')]
      have hb : ((er : Int) != 0) = true := by simpa using he'
      clear e hg dl hzz he he'
      go_enter Tryd.func73, Tryd.ntmps73
      go_wp2_with fail
      go_quiet ((go_at_call 91; exact Calls.quiet_of_same ((Hg.out _).mono fun _ _ hh => ⟨hh.1, hh.2.symm⟩)))
      go_wp2_with fail
      refine (ref_set er g s at_ 0 _ (rrd_drew H.out _)).mono ?_
      rintro e w' ⟨rfl, r1, r2⟩
      go_wp2_with fail
      go_ret2
      exact ⟨rfl, r1, Kp.of_below (drewN_below w _) r2⟩
  · rw [rd_w hw]
    have hb : (wr != 0) = true := by simpa using hw
    clear hw dl
    go_enter Tryd.func73, Tryd.ntmps73
    go_wp2_with fail
    go_quiet (fail)
    go_wp2_with fail
    go_ret2
    exact ⟨rfl, rrd_drew H.out _, kp_below (drewN_below w _)⟩
end Go.Proofs.YtkfcglgikemefaaDoor
namespace Go.Proofs.YtkfcglgikemefaaDoor
set_option maxRecDepth 100000
open Go.RowKit
set_option linter.unusedVariables false
theorem rref_int (g : Nat) (s : ByteArray) (at_ : Nat) (wr : Int) (w : World) (h : RRd w g s at_ wr) :
    Calls Tryd.prog 44 #[.pointer (some ⟨g, 0, none⟩)] w (RRdPost (.int .i64 (rInt s at_ wr).1) (rInt s at_ wr).2.1 g s (rInt s at_ wr).2.2.1 (rInt s at_ wr).2.2.2 w) := by
  have H := rref_num 18446744073709551615 g s at_ wr w h
  unfold rNum at H
  unfold rInt
  have bad : ∀ er : Int, er ≠ 0 → Calls Tryd.prog 73 #[.pointer (some ⟨g, 0, none⟩), .int .u64 18446744073709551615] w (RRdPost (.int .u64 0) er g s at_ er w) →
      Calls Tryd.prog 44 #[.pointer (some ⟨g, 0, none⟩)] w (RRdPost (.int .i64 0) er g s at_ er w) := by
    intro er her hr
    have hb : (er != 0) = true := by simpa using her
    have Hr := Lib.hid hr
    clear hr H her h
    go_enter Tryd.func44, Tryd.ntmps44
    go_wp2_with fail
    refine Hr.out.mono ?_
    rintro e w' ⟨rfl, r1, r2⟩
    go_wp2_with fail
    go_ret2
    exact ⟨rfl, r1, r2⟩
  by_cases hw : wr = 0
  · subst hw
    have hsm := get_small (s.data.toList.drop at_)
    rcases hg : Vm.get (s.data.toList.drop at_) with ⟨n, size, er⟩
    rw [hg] at hsm
    by_cases he : er = 0
    · subst he
      have e1 : tInt (s.data.toList.drop at_) = (zagV n, size, 0) := by unfold tInt; rw [hg]; simp
      have e2 : tNum 18446744073709551615 (s.data.toList.drop at_) = ((n : Int), size, 0) := by
        unfold tNum
        rw [hg]
        simp only [if_true]
        rw [if_neg (by omega)]
      rw [e2, rd_k rfl] at H
      rw [e1, rd_k rfl]
      have Hr := Lib.hid H
      clear H bad h e1 e2 hg
      have hn1 : (n : Int) ≤ 18446744073709551615 := by omega
      have Hz := Lib.hid (fun W => rzag_v n (by omega) hn1 W)
      clear hn1 hsm
      go_enter Tryd.func44, Tryd.ntmps44
      go_wp2_with fail
      refine Hr.out.mono ?_
      rintro e w' ⟨rfl, r1, r2⟩
      go_wp2_with fail
      refine (Hz.out _).mono ?_
      rintro e w3 ⟨rfl, rfl⟩
      go_wp2_with fail
      go_ret2
      exact ⟨rfl, r1, r2⟩
    · have he' : (er : Int) ≠ 0 := by omega
      have e1 : tInt (s.data.toList.drop at_) = (0, 0, (er : Int)) := by unfold tInt; rw [hg]; simp [he]
      have e2 : tNum 18446744073709551615 (s.data.toList.drop at_) = (0, 0, (er : Int)) := by unfold tNum; rw [hg]; simp [he]
      rw [e2, rd_e (by exact he')] at H
      rw [e1, rd_e (by exact he')]
      exact bad er he' H
  · rw [rd_w hw] at H
    rw [rd_w hw]
    exact bad wr hw H
theorem rref_fail (place er : Int) (g : Nat) (s : ByteArray) (at_ : Nat) (wr : Int) (w : World) (h : RRd w g s at_ wr) :
    Calls Tryd.prog 45 #[.pointer (some ⟨g, 0, none⟩), .int .i64 place, .int .i64 er] w (RSet (rFail place er at_ wr).1 g s (rFail place er at_ wr).2.1 (rFail place er at_ wr).2.2 w) := by
  unfold rFail
  have c1 := h.1.cell 1
  have c2 := h.1.cell 2
  simp at c1 c2
  have f1 := h.1.free 1
  have H := Lib.hid h
  clear h
  by_cases hw : wr = 0
  · subst hw
    rw [if_pos rfl]
    by_cases hp : place < 0 ∨ (at_ : Int) < place ∨ er = 0
    · rw [if_pos hp]
      have hpost : RSet 1 g s at_ 0 w (.returned (.int .i64 1)) w := ⟨rfl, H.out, kp_below (Below.refl _ _)⟩
      have HP := Lib.hid hpost
      clear hpost
      by_cases h0 : place < 0
      · clear hp
        go_enter Tryd.func45, Tryd.ntmps45
        go_wp2_with fail
        go_ret
        exact HP.out
      · by_cases h1 : (at_ : Int) < place
        · clear hp
          have h0' : 0 ≤ place := by omega
          go_enter Tryd.func45, Tryd.ntmps45
          go_wp2_with fail
          go_ret
          exact HP.out
        · obtain rfl : er = 0 := by omega
          have h0' : 0 ≤ place := by omega
          have h1' : place ≤ (at_ : Int) := by omega
          clear hp h0 h1
          go_enter Tryd.func45, Tryd.ntmps45
          go_wp2_with fail
          go_ret
          exact HP.out
    · rw [if_neg hp]
      have h0 : 0 ≤ place := by omega
      have h1 : place ≤ (at_ : Int) := by omega
      have h2 : (er == 0) = false := by simp; omega
      obtain ⟨k, rfl⟩ := Int.eq_ofNat_of_zero_le h0
      rw [Int.toNat_natCast]
      have hk : k ≤ s.size := by have := H.out.2.1; omega
      have r0 : RRd (w.setCell ⟨g, 1, none⟩ (.int .i64 (k : Int))) g s k 0 ∧ Kp g none w (w.setCell ⟨g, 1, none⟩ (.int .i64 (k : Int))) :=
        ⟨⟨by simpa using H.out.1.store 1 (.int .i64 (k : Int)), hk, H.out.2.2⟩, ⟨rfl, rfl, rfl, by simp [World.setCell], fun i hi hg _ => Below.heap_setCell _ _ _ _ hg⟩⟩
      have R0 := Lib.hid r0
      clear hp r0 hk
      go_enter Tryd.func45, Tryd.ntmps45
      go_wp2_with fail
      refine (ref_set er g s k 0 _ R0.out.1).mono ?_
      rintro e w' ⟨rfl, r1, r2⟩
      go_wp2_with fail
      go_ret
      exact ⟨rfl, r1, R0.out.2.trans r2⟩
  · rw [if_neg hw]
    have hb : (wr != 0) = true := by simpa using hw
    clear hw
    go_enter Tryd.func45, Tryd.ntmps45
    go_wp2_with fail
    go_ret
    exact ⟨rfl, H.out, kp_below (Below.refl _ _)⟩
end Go.Proofs.YtkfcglgikemefaaDoor
namespace Go.Proofs.YtkfcglgikemefaaDoor
set_option maxRecDepth 100000
open Go.RowKit Go.Deep
set_option linter.unusedVariables false
set_option linter.unusedSimpArgs false
def cellR (q : Cd) (i : Nat) : Int := if i = 0 then q.T else if i = 1 then q.V else if i = 2 then q.S else if i = 3 then q.last else if i = 4 then q.clk else if i < 11 then q.bg (i - 5) else if i < 17 then q.bp (i - 11) else q.xs (i - 17)
def RCod (w : World) (g : Nat) (q : Cd) : Prop := w.heap[g]? = some (.cells (rowC 49 (cellR q)) 82 (0, 0))
section
variable {w w' : World} {g g' : Nat} {q : Cd} {e : Ev}
theorem RCod.lt (h : RCod w g q) : g < w.heap.size := (Array.getElem?_eq_some_iff.1 h).1
theorem RCod.same (h : RCod w g q) (e : w'.heap[g]? = w.heap[g]?) : RCod w' g q := e.trans h
theorem RCod.below (h : RCod w g q) (hb : Below w.heap.size w w') : RCod w' g q := h.same (hb.block g h.lt)
theorem RCod.cell (h : RCod w g q) {i : Nat} (hi : i < 49) : w.cell? ⟨g, i, none⟩ = some (.int .i64 (cellR q i)) := (cell_of_row w g i _ _ _ h).trans (rowC_get 49 _ hi)
theorem RCod.fr (h : RCod w g q) (i : Nat) : w.frozen? ⟨g, i, none⟩ = false := by
  unfold World.frozen?
  rw [h]
  rfl
theorem RCod.cT (h : RCod w g q) : w.cell? ⟨g, 0, none⟩ = some (.int .i64 q.T) := h.cell (by omega)
theorem RCod.cV (h : RCod w g q) : w.cell? ⟨g, 1, none⟩ = some (.int .i64 q.V) := h.cell (by omega)
theorem RCod.cS (h : RCod w g q) : w.cell? ⟨g, 2, none⟩ = some (.int .i64 q.S) := h.cell (by omega)
theorem RCod.cl (h : RCod w g q) : w.cell? ⟨g, 3, none⟩ = some (.int .i64 q.last) := h.cell (by omega)
theorem RCod.cc (h : RCod w g q) : w.cell? ⟨g, 4, none⟩ = some (.int .i64 q.clk) := h.cell (by omega)
theorem rcell_bg (q : Cd) {t : Nat} (ht : t < 6) : cellR q (5 + t) = q.bg t := by
  unfold cellR
  rw [if_neg (by omega), if_neg (by omega), if_neg (by omega), if_neg (by omega), if_neg (by omega), if_pos (by omega), show 5 + t - 5 = t by omega]
theorem rcell_bp (q : Cd) {t : Nat} (ht : t < 6) : cellR q (11 + t) = q.bp t := by
  unfold cellR
  rw [if_neg (by omega), if_neg (by omega), if_neg (by omega), if_neg (by omega), if_neg (by omega), if_neg (by omega), if_pos (by omega), show 11 + t - 11 = t by omega]
theorem rcell_xs (q : Cd) (v : Nat) : cellR q (17 + v) = q.xs v := by
  unfold cellR
  rw [if_neg (by omega), if_neg (by omega), if_neg (by omega), if_neg (by omega), if_neg (by omega), if_neg (by omega), if_neg (by omega), show 17 + v - 17 = v by omega]
theorem RCod.cbg (h : RCod w g q) {t : Nat} (ht : t < 6) : w.cell? ⟨g, 5 + t, none⟩ = some (.int .i64 (q.bg t)) := by rw [h.cell (by omega), rcell_bg q ht]
theorem RCod.cbp (h : RCod w g q) {t : Nat} (ht : t < 6) : w.cell? ⟨g, 11 + t, none⟩ = some (.int .i64 (q.bp t)) := by rw [h.cell (by omega), rcell_bp q ht]
theorem RCod.cx (h : RCod w g q) {v : Nat} (hv : v < 32) : w.cell? ⟨g, 17 + v, none⟩ = some (.int .i64 (q.xs v)) := by rw [h.cell (by omega), rcell_xs q v]
theorem RCod.set (h : RCod w g q) {i : Nat} (hi : i < 49) (x : Int) {q' : Cd} (hq : ∀ j, j < 49 → put (cellR q) i x j = cellR q' j) : RCod (w.setCell ⟨g, i, none⟩ (.int .i64 x)) g q' := by
  have := Obj.store (w := w) (g := g) (t := 82) h i (.int .i64 x)
  rw [rowC_set 49 _ hi, rowC_congr hq] at this
  exact this
end
set_option maxHeartbeats 1000000 in
theorem rnew_no (T V S : Int) (h : sizeD T V S = false) (w : World) : Calls Tryd.prog 10 #[.int .i64 T, .int .i64 V, .int .i64 S] w fun r w' => r = .returned (.tuple #[.pointer none, .int .i64 1]) ∧ w = w' := by
  have HS := Lib.hid h
  clear h
  go_enter Tryd.func10, Tryd.ntmps10
  by_cases h1 : 1 ≤ T
  rotate_left
  · clear HS
    go_wp2_with fail
    go_ret2
    exact ⟨rfl, rfl⟩
  by_cases h2 : T ≤ 6
  rotate_left
  · clear HS
    go_wp2_with fail
    go_ret2
    exact ⟨rfl, rfl⟩
  by_cases h3 : 1 ≤ V
  rotate_left
  · clear HS
    go_wp2_with fail
    go_ret2
    exact ⟨rfl, rfl⟩
  by_cases h4 : V ≤ 32
  rotate_left
  · clear HS
    go_wp2_with fail
    go_ret2
    exact ⟨rfl, rfl⟩
  by_cases h5 : 1 ≤ S
  rotate_left
  · clear HS
    go_wp2_with fail
    go_ret2
    exact ⟨rfl, rfl⟩
  by_cases h6 : S ≤ V
  rotate_left
  · clear HS
    go_wp2_with fail
    go_ret2
    exact ⟨rfl, rfl⟩
  have := HS.out
  simp [sizeD, h1, h2, h3, h4, h5, h6] at this
set_option maxHeartbeats 2000000 in
theorem rnew_yes (T V S : Int) (h : sizeD T V S = true) (w : World) : Calls Tryd.prog 10 #[.int .i64 T, .int .i64 V, .int .i64 S] w fun r w' => r = .returned (.tuple #[.pointer (some ⟨w.heap.size, 0, none⟩), .int .i64 0]) ∧ w' = w.alloc (.cells (rowC 49 (cellR (newQ T V S))) 82) := by
  simp only [sizeD, Bool.and_eq_true, decide_eq_true_eq] at h
  obtain ⟨⟨⟨⟨⟨h1, h2⟩, h3⟩, h4⟩, h5⟩, h6⟩ := h
  go_enter Tryd.func10, Tryd.ntmps10
  go_wp2_with fail
  go_ret2
  exact ⟨rfl, rfl⟩
set_option maxHeartbeats 1000000 in
theorem rcopy_any (q : Cd) (gc : Nat) (w : World) (hcd : RCod w gc q) : Calls Tryd.prog 14 #[.pointer (some ⟨gc, 0, none⟩)] w fun r w' => r = .returned (.pointer (some ⟨w.heap.size, 0, none⟩)) ∧ w' = w.alloc (.cells (rowC 49 (cellR q)) 82) := by
  have hlt := hcd.lt
  have hr := Lib.hid hcd
  have hsz : (rowC 49 (cellR q)).size = 49 := rowC_size 49 _
  obtain ⟨C, hC⟩ : ∃ C, rowC 49 (cellR q) = C := ⟨_, rfl⟩
  have hone : C.all (·.oneCell') = true := by rw [← hC]; exact rowC49_one _
  have hg : Hid (w.heap[gc]? = some (.cells C 82 (0, 0))) := by rw [← hC]; exact hcd
  have hinfo : (Tryd.prog.info? 82).map (·.size) = some C.size := by rw [← hC, hsz]; rfl
  have hCs : C.size = 49 := by rw [← hC]; exact hsz
  rw [hC]
  clear hcd hC hsz hr
  go_enter Tryd.func14, Tryd.ntmps14
  go_wp2_with (first
    | (refine wpList_load_row rfl 82 _ rfl gc rfl 82 C (0, 0) _ hg.out Tryd.underlying82 rfl hinfo ?_)
    | (refine wpList_store_row rfl 82 _ _ rfl w.heap.size C rfl rfl 82 _ (heap_alloc_new w _) hinfo (by rw [hCs]; rfl) hone ?_; rw [World.setRow_alloc_new])
    | fail)
  go_ret
  exact ⟨rfl, rfl⟩
theorem rnum_any (n : Int) (h0 : 0 ≤ n) (h1 : n ≤ 9223372036854775807) (w : World) : Calls Tryd.prog 67 #[.int .i64 n] w fun r w' => r = .returned (.string (bs (Vm.put n.toNat))) ∧ Below w.heap.size w w' := by
  have HP := Lib.hid (rput_s n.toNat (by omega) w)
  have HW : IntKind.u64.wrap n = (n.toNat : Int) := by rw [IntKind.wrap_u64]; omega
  obtain ⟨k, hk⟩ : ∃ k, n.toNat = k := ⟨_, rfl⟩
  rw [hk] at HP HW ⊢
  clear hk
  go_enter Tryd.func67, Tryd.ntmps67
  go_wp2_with fail
  refine HP.out.mono ?_
  rintro _ w1 ⟨rfl, b1⟩
  go_wp2_with fail
  go_ret
  exact ⟨rfl, b1⟩
end Go.Proofs.YtkfcglgikemefaaDoor
namespace Go.Proofs.YtkfcglgikemefaaDoor
set_option maxRecDepth 100000
open Go.RowKit Go.Deep
set_option linter.unusedVariables false
set_option linter.unusedSimpArgs false
section
variable {a : Act} {w : World} {K : Act → World → Prop} {Q : Exit → Act → World → Prop} {o : Oper}
theorem u_f81_0 (x : Nat) {g q : Nat} (ho : o.op = .fieldAddr 82 (.tmp x) 0) (hx : a.tmps[x]?.getD undef = .pointer (some ⟨g, q, none⟩)) (hK : K (a.put o.dst (.pointer (some ⟨g, q, none⟩))) w) : Oper.wp Tryd.prog o a w K Q := by
  obtain ⟨dst, op, type, pos, after, guard⟩ := o
  have ho' : op = _ := ho
  subst ho'
  clear ho
  go_simp
  exact hK
theorem u_f81_1 (x : Nat) {g q : Nat} (ho : o.op = .fieldAddr 82 (.tmp x) 1) (hx : a.tmps[x]?.getD undef = .pointer (some ⟨g, q, none⟩)) (hK : K (a.put o.dst (.pointer (some ⟨g, q + 1, none⟩))) w) : Oper.wp Tryd.prog o a w K Q := by
  obtain ⟨dst, op, type, pos, after, guard⟩ := o
  have ho' : op = _ := ho
  subst ho'
  clear ho
  go_simp
  exact hK
theorem u_f81_2 (x : Nat) {g q : Nat} (ho : o.op = .fieldAddr 82 (.tmp x) 2) (hx : a.tmps[x]?.getD undef = .pointer (some ⟨g, q, none⟩)) (hK : K (a.put o.dst (.pointer (some ⟨g, q + 2, none⟩))) w) : Oper.wp Tryd.prog o a w K Q := by
  obtain ⟨dst, op, type, pos, after, guard⟩ := o
  have ho' : op = _ := ho
  subst ho'
  clear ho
  go_simp
  exact hK
theorem u_f81_3 (x : Nat) {g q : Nat} (ho : o.op = .fieldAddr 82 (.tmp x) 3) (hx : a.tmps[x]?.getD undef = .pointer (some ⟨g, q, none⟩)) (hK : K (a.put o.dst (.pointer (some ⟨g, q + 3, none⟩))) w) : Oper.wp Tryd.prog o a w K Q := by
  obtain ⟨dst, op, type, pos, after, guard⟩ := o
  have ho' : op = _ := ho
  subst ho'
  clear ho
  go_simp
  exact hK
theorem u_f81_4 (x : Nat) {g q : Nat} (ho : o.op = .fieldAddr 82 (.tmp x) 4) (hx : a.tmps[x]?.getD undef = .pointer (some ⟨g, q, none⟩)) (hK : K (a.put o.dst (.pointer (some ⟨g, q + 4, none⟩))) w) : Oper.wp Tryd.prog o a w K Q := by
  obtain ⟨dst, op, type, pos, after, guard⟩ := o
  have ho' : op = _ := ho
  subst ho'
  clear ho
  go_simp
  exact hK
theorem u_f81_5 (x : Nat) {g q : Nat} (ho : o.op = .fieldAddr 82 (.tmp x) 5) (hx : a.tmps[x]?.getD undef = .pointer (some ⟨g, q, none⟩)) (hK : K (a.put o.dst (.pointer (some ⟨g, q + 5, none⟩))) w) : Oper.wp Tryd.prog o a w K Q := by
  obtain ⟨dst, op, type, pos, after, guard⟩ := o
  have ho' : op = _ := ho
  subst ho'
  clear ho
  go_simp
  exact hK
theorem u_f81_6 (x : Nat) {g q : Nat} (ho : o.op = .fieldAddr 82 (.tmp x) 6) (hx : a.tmps[x]?.getD undef = .pointer (some ⟨g, q, none⟩)) (hK : K (a.put o.dst (.pointer (some ⟨g, q + 11, none⟩))) w) : Oper.wp Tryd.prog o a w K Q := by
  obtain ⟨dst, op, type, pos, after, guard⟩ := o
  have ho' : op = _ := ho
  subst ho'
  clear ho
  go_simp
  exact hK
theorem u_f81_7 (x : Nat) {g q : Nat} (ho : o.op = .fieldAddr 82 (.tmp x) 7) (hx : a.tmps[x]?.getD undef = .pointer (some ⟨g, q, none⟩)) (hK : K (a.put o.dst (.pointer (some ⟨g, q + 17, none⟩))) w) : Oper.wp Tryd.prog o a w K Q := by
  obtain ⟨dst, op, type, pos, after, guard⟩ := o
  have ho' : op = _ := ho
  subst ho'
  clear ho
  go_simp
  exact hK
theorem u_i79 (x y : Nat) {g q k : Nat} (hk : k < 6) (ho : o.op = .indexAddr 80 (.tmp x) (.tmp y)) (hx : a.tmps[x]?.getD undef = .pointer (some ⟨g, q, none⟩)) (hy : a.tmps[y]?.getD undef = .int .i64 (k : Int)) (hK : K (a.put o.dst (.pointer (some ⟨g, q + k, none⟩))) w) : Oper.wp Tryd.prog o a w K Q := by
  obtain ⟨dst, op, type, pos, after, guard⟩ := o
  have ho' : op = _ := ho
  subst ho'
  clear ho
  have i1 : (0 : Int) ≤ (k : Int) := by omega
  have i2 : (k : Int) < 6 := by omega
  go_simp
  exact hK
end
section
variable {q : Cd}
theorem rput_last (x : Int) (j : Nat) (hj : j < 49) : put (cellR q) 3 x j = cellR { q with last := x } j := by
  unfold put
  by_cases h : j = 3
  · subst h
    rfl
  · rw [if_neg h]
    unfold cellR
    simp only [h, if_false]
theorem rput_clk (x : Int) (j : Nat) (hj : j < 49) : put (cellR q) 4 x j = cellR { q with clk := x } j := by
  unfold put
  by_cases h : j = 4
  · subst h
    rfl
  · rw [if_neg h]
    unfold cellR
    simp only [h, if_false]
theorem rput_bg {t : Nat} (ht : t < 6) (x : Int) (j : Nat) (hj : j < 49) : put (cellR q) (5 + t) x j = cellR { q with bg := put q.bg t x } j := by
  by_cases h : j = 5 + t
  · subst h
    rw [rcell_bg _ ht]
    simp [put]
  · have e : put (cellR q) (5 + t) x j = cellR q j := by simp [put, h]
    rw [e]
    unfold cellR
    by_cases h5 : j < 5
    · have : j = 0 ∨ j = 1 ∨ j = 2 ∨ j = 3 ∨ j = 4 := by omega
      rcases this with rfl | rfl | rfl | rfl | rfl <;> rfl
    · by_cases h1 : j < 11
      · have h3 : j - 5 ≠ t ∨ 5 = 11 := by omega
        first
        | (have h4 : j - 5 ≠ t := by omega
           simp only [h1, put, h4, if_true, if_false])
        | simp only [h1, if_true]
      · first
        | (have h4 : j - 11 ≠ t := by omega
           simp only [h1, put, h4, if_false])
        | simp only [h1, if_false]
theorem rput_bp {t : Nat} (ht : t < 6) (x : Int) (j : Nat) (hj : j < 49) : put (cellR q) (11 + t) x j = cellR { q with bp := put q.bp t x } j := by
  by_cases h : j = 11 + t
  · subst h
    rw [rcell_bp _ ht]
    simp [put]
  · have e : put (cellR q) (11 + t) x j = cellR q j := by simp [put, h]
    rw [e]
    unfold cellR
    by_cases h5 : j < 5
    · have : j = 0 ∨ j = 1 ∨ j = 2 ∨ j = 3 ∨ j = 4 := by omega
      rcases this with rfl | rfl | rfl | rfl | rfl <;> rfl
    · by_cases h1 : j < 11
      · have h3 : j - 5 ≠ t ∨ 11 = 11 := by omega
        first
        | (have h4 : j - 5 ≠ t := by omega
           simp only [h1, put, h4, if_true, if_false])
        | simp only [h1, if_true]
      · first
        | (have h4 : j - 11 ≠ t := by omega
           simp only [h1, put, h4, if_false])
        | simp only [h1, if_false]
theorem rput_xs {v : Nat} (hv : v < 32) (x : Int) (j : Nat) (hj : j < 49) : put (cellR q) (17 + v) x j = cellR { q with xs := put q.xs v x } j := by
  by_cases h : j = 17 + v
  · subst h
    rw [rcell_xs]
    simp [put]
  · have e : put (cellR q) (17 + v) x j = cellR q j := by simp [put, h]
    rw [e]
    unfold cellR
    by_cases h5 : j < 17
    · by_cases h6 : j < 5
      · have : j = 0 ∨ j = 1 ∨ j = 2 ∨ j = 3 ∨ j = 4 := by omega
        rcases this with rfl | rfl | rfl | rfl | rfl <;> rfl
      · simp only [h5, if_true]
    · have h3 : j - 17 ≠ v := by omega
      simp only [put, h3, if_false]
end
noncomputable def rgTells1t_ops : Array Oper := opsW Tryd.f36 1
def rgTells1t_D : List (Option Nat) := [some 5, some 6, some 7, some 8, some 9, some 10, some 11, some 12, some 13, some 14, some 15, some 16, some 17, some 18, some 19]
set_option maxRecDepth 100000 in
set_option maxHeartbeats 4000000 in
theorem rgTells1t {id : Nat} {ops : Array Oper} (hops : ops = rgTells1t_ops) (T0 : Array Value) (hsz : 20 ≤ T0.size) (W : World) (gc ge : Nat) (q : Cd) (e : Ev) (he : EvO W ge e) (hcd : RCod W gc q) (HC : ∀ w, Below W.heap.size W w → Calls Tryd.prog 48 #[evV e, .int .i64 q.T, .int .i64 q.V, .int .i64 q.S] w fun r w' => r = .returned (.bool true) ∧ Below w.heap.size w w') (h0 : T0[0]? = some (.pointer (some ⟨gc, 0, none⟩))) (h3 : T0[3]? = some (.pointer (some ⟨ge, 0, none⟩))) {Q : Exit → Act → World → Prop}
    (hend : ∀ w : World, Below W.heap.size W w → Q .normal ⟨putAll T0 [5, 6, 7, 8, 9, 10, 11, 12, 13, 14, 15, 16, 17, 18, 19] [evV e, .pointer (some ⟨gc, 0, none⟩), .pointer (some ⟨gc, 0, none⟩), .pointer (some ⟨gc, 0, none⟩), .int .i64 q.T, .pointer (some ⟨gc, 0, none⟩), .pointer (some ⟨gc, 0, none⟩), .pointer (some ⟨gc, 1, none⟩), .int .i64 q.V, .pointer (some ⟨gc, 0, none⟩), .pointer (some ⟨gc, 0, none⟩), .pointer (some ⟨gc, 2, none⟩), .int .i64 q.S, .bool true, .bool false], []⟩ w) : (Code.region id ops true).wp Tryd.prog Q ⟨T0, []⟩ W := by
  subst hops
  have hos : rgTells1t_ops.size = 15 := by kernel_rfl
  have hga : (List.range 15).all (fun i => match rgTells1t_ops[i]? with | some o => o.guard == ([none, none, none, none, none, none, none, none, none, none, none, none, none, none, none] : List (Option (Nat × Bool))).getD i none | none => false) = true := by kernel_rfl
  have hds : ((pairsS rgTells1t_D ([evV e, .pointer (some ⟨gc, 0, none⟩), .pointer (some ⟨gc, 0, none⟩), .pointer (some ⟨gc, 0, none⟩), .int .i64 q.T, .pointer (some ⟨gc, 0, none⟩), .pointer (some ⟨gc, 0, none⟩), .pointer (some ⟨gc, 1, none⟩), .int .i64 q.V, .pointer (some ⟨gc, 0, none⟩), .pointer (some ⟨gc, 0, none⟩), .pointer (some ⟨gc, 2, none⟩), .int .i64 q.S, .bool true, .bool false] : List Value)).map (·.1)) = [5, 6, 7, 8, 9, 10, 11, 12, 13, 14, 15, 16, 17, 18, 19] := rfl
  refine wp_region_valsG ([evV e, .pointer (some ⟨gc, 0, none⟩), .pointer (some ⟨gc, 0, none⟩), .pointer (some ⟨gc, 0, none⟩), .int .i64 q.T, .pointer (some ⟨gc, 0, none⟩), .pointer (some ⟨gc, 0, none⟩), .pointer (some ⟨gc, 1, none⟩), .int .i64 q.V, .pointer (some ⟨gc, 0, none⟩), .pointer (some ⟨gc, 0, none⟩), .pointer (some ⟨gc, 2, none⟩), .int .i64 q.S, .bool true, .bool false] : List Value) [true, true, true, true, true, true, true, true, true, true, true, true, true, true, true] rgTells1t_D (fun don w => Below W.heap.size W w) W T0 (by rw [hds]; decide) (fun x hx => ?_) (by kernel_rfl) (by kernel_rfl) (fun i o j want ho hg => ?_) (fun i hi hon => ?_) (fun i hi hon don w hM => ?_) ?_ ?_ ?_
  · rw [hds] at hx
    have hall : (([5, 6, 7, 8, 9, 10, 11, 12, 13, 14, 15, 16, 17, 18, 19] : List Nat).all fun d => decide (d < 20)) = true := by decide
    have := List.all_eq_true.1 hall x hx
    simp only [decide_eq_true_eq] at this
    omega
  · have hi : i < 15 := by rw [← hos]; exact (Array.getElem?_eq_some_iff.1 ho).1
    have h1 := List.all_eq_true.1 hga i (by simpa using hi)
    rw [ho] at h1
    simp only [hg, beq_iff_eq] at h1
    match i, hi with
    | 0, _ => cases h1
    | 1, _ => cases h1
    | 2, _ => cases h1
    | 3, _ => cases h1
    | 4, _ => cases h1
    | 5, _ => cases h1
    | 6, _ => cases h1
    | 7, _ => cases h1
    | 8, _ => cases h1
    | 9, _ => cases h1
    | 10, _ => cases h1
    | 11, _ => cases h1
    | 12, _ => cases h1
    | 13, _ => cases h1
    | 14, _ => cases h1
    | i + 15, h => exact absurd (show i + 15 < 15 from h) (by omega)
  · match i, hi with
    | 0, _ => cases hon
    | 1, _ => cases hon
    | 2, _ => cases hon
    | 3, _ => cases hon
    | 4, _ => cases hon
    | 5, _ => cases hon
    | 6, _ => cases hon
    | 7, _ => cases hon
    | 8, _ => cases hon
    | 9, _ => cases hon
    | 10, _ => cases hon
    | 11, _ => cases hon
    | 12, _ => cases hon
    | 13, _ => cases hon
    | 14, _ => cases hon
    | i + 15, h => exact absurd (show i + 15 < 15 from h) (by omega)
  · match i, hi with
    | 0, _ => cases hon
    | 1, _ => cases hon
    | 2, _ => cases hon
    | 3, _ => cases hon
    | 4, _ => cases hon
    | 5, _ => cases hon
    | 6, _ => cases hon
    | 7, _ => cases hon
    | 8, _ => cases hon
    | 9, _ => cases hon
    | 10, _ => cases hon
    | 11, _ => cases hon
    | 12, _ => cases hon
    | 13, _ => cases hon
    | 14, _ => cases hon
    | i + 15, h => exact absurd (show i + 15 < 15 from h) (by omega)
  · exact (Below.refl _ _).drew
  · intro i oo ho hi hon don a w hT hU hdi hM K hK
    rw [hds] at hT
    have hT0 : ∀ t v, t ∉ ([5, 6, 7, 8, 9, 10, 11, 12, 13, 14, 15, 16, 17, 18, 19] : List Nat) → T0[t]? = some v → a.tmps[t]?.getD undef = v := fun t v ht hv => by rw [hT t ht, hv]; rfl
    match i, hi with
    | 0, _ => exact u_loadE 3 (opAtW ho (by kernel_rfl)) (hT0 3 _ (by decide) h3) (⟨rfl, he.below hM⟩) (hK w hM)
    | 1, _ => exact v_move 0 (opAtW ho (by kernel_rfl)) (hT0 0 _ (by decide) h0) (hK w hM)
    | 2, _ => exact u_nil 6 (opAtW ho (by kernel_rfl)) ((hU 1 (by kernel_rfl)).2 6 rfl) (hK w hM)
    | 3, _ => exact u_f81_0 7 (opAtW ho (by kernel_rfl)) ((hU 2 (by kernel_rfl)).2 7 rfl) (hK w hM)
    | 4, _ => exact u_loadi 8 (opAtW ho (by kernel_rfl)) ((hU 3 (by kernel_rfl)).2 8 rfl) ((hcd.below hM).cT) (hK w hM)
    | 5, _ => exact v_move 0 (opAtW ho (by kernel_rfl)) (hT0 0 _ (by decide) h0) (hK w hM)
    | 6, _ => exact u_nil 10 (opAtW ho (by kernel_rfl)) ((hU 5 (by kernel_rfl)).2 10 rfl) (hK w hM)
    | 7, _ => exact u_f81_1 11 (opAtW ho (by kernel_rfl)) ((hU 6 (by kernel_rfl)).2 11 rfl) (hK w hM)
    | 8, _ => exact u_loadi 12 (opAtW ho (by kernel_rfl)) ((hU 7 (by kernel_rfl)).2 12 rfl) ((hcd.below hM).cV) (hK w hM)
    | 9, _ => exact v_move 0 (opAtW ho (by kernel_rfl)) (hT0 0 _ (by decide) h0) (hK w hM)
    | 10, _ => exact u_nil 14 (opAtW ho (by kernel_rfl)) ((hU 9 (by kernel_rfl)).2 14 rfl) (hK w hM)
    | 11, _ => exact u_f81_2 15 (opAtW ho (by kernel_rfl)) ((hU 10 (by kernel_rfl)).2 15 rfl) (hK w hM)
    | 12, _ => exact u_loadi 16 (opAtW ho (by kernel_rfl)) ((hU 11 (by kernel_rfl)).2 16 rfl) ((hcd.below hM).cS) (hK w hM)
    | 13, _ =>
      have x5 : a.tmps[5]?.getD undef = evV e := ((hU 0 (by kernel_rfl)).2 5 rfl)
      have x9 : a.tmps[9]?.getD undef = .int .i64 q.T := ((hU 4 (by kernel_rfl)).2 9 rfl)
      have x13 : a.tmps[13]?.getD undef = .int .i64 q.V := ((hU 8 (by kernel_rfl)).2 13 rfl)
      have x17 : a.tmps[17]?.getD undef = .int .i64 q.S := ((hU 12 (by kernel_rfl)).2 17 rfl)
      obtain ⟨dst, op, type, pos, after, guard⟩ := oo
      have ho' : op = .call { callee := .value (.func 48), args := #[.tmp 5, .tmp 9, .tmp 13, .tmp 17], argTypes := #[46, 3, 3, 3] } := opAtW ho (by kernel_rfl)
      subst ho'
      clear ho hT hU hT0
      have hfun := Tryd.func48
      go_simp
      refine (HC w hM).mono ?_
      rintro _ w' ⟨rfl, h1⟩
      exact hK w' (hM.trans (h1.mono hM.size))
    | 14, _ => exact u_notT 18 (opAtW ho (by kernel_rfl)) ((hU 13 (by kernel_rfl)).2 18 rfl) (hK w hM)
    | i + 15, h => exact absurd (show i + 15 < 15 from h) (by omega)
  · intro w hM
    exact hend w (hM)

noncomputable def rgTells1f_ops : Array Oper := opsW Tryd.f36 1
def rgTells1f_D : List (Option Nat) := [some 5, some 6, some 7, some 8, some 9, some 10, some 11, some 12, some 13, some 14, some 15, some 16, some 17, some 18, some 19]
set_option maxRecDepth 100000 in
set_option maxHeartbeats 4000000 in
theorem rgTells1f {id : Nat} {ops : Array Oper} (hops : ops = rgTells1f_ops) (T0 : Array Value) (hsz : 20 ≤ T0.size) (W : World) (gc ge : Nat) (q : Cd) (e : Ev) (he : EvO W ge e) (hcd : RCod W gc q) (HC : ∀ w, Below W.heap.size W w → Calls Tryd.prog 48 #[evV e, .int .i64 q.T, .int .i64 q.V, .int .i64 q.S] w fun r w' => r = .returned (.bool false) ∧ Below w.heap.size w w') (h0 : T0[0]? = some (.pointer (some ⟨gc, 0, none⟩))) (h3 : T0[3]? = some (.pointer (some ⟨ge, 0, none⟩))) {Q : Exit → Act → World → Prop}
    (hend : ∀ w : World, Below W.heap.size W w → Q .normal ⟨putAll T0 [5, 6, 7, 8, 9, 10, 11, 12, 13, 14, 15, 16, 17, 18, 19] [evV e, .pointer (some ⟨gc, 0, none⟩), .pointer (some ⟨gc, 0, none⟩), .pointer (some ⟨gc, 0, none⟩), .int .i64 q.T, .pointer (some ⟨gc, 0, none⟩), .pointer (some ⟨gc, 0, none⟩), .pointer (some ⟨gc, 1, none⟩), .int .i64 q.V, .pointer (some ⟨gc, 0, none⟩), .pointer (some ⟨gc, 0, none⟩), .pointer (some ⟨gc, 2, none⟩), .int .i64 q.S, .bool false, .bool true], []⟩ w) : (Code.region id ops true).wp Tryd.prog Q ⟨T0, []⟩ W := by
  subst hops
  have hos : rgTells1f_ops.size = 15 := by kernel_rfl
  have hga : (List.range 15).all (fun i => match rgTells1f_ops[i]? with | some o => o.guard == ([none, none, none, none, none, none, none, none, none, none, none, none, none, none, none] : List (Option (Nat × Bool))).getD i none | none => false) = true := by kernel_rfl
  have hds : ((pairsS rgTells1f_D ([evV e, .pointer (some ⟨gc, 0, none⟩), .pointer (some ⟨gc, 0, none⟩), .pointer (some ⟨gc, 0, none⟩), .int .i64 q.T, .pointer (some ⟨gc, 0, none⟩), .pointer (some ⟨gc, 0, none⟩), .pointer (some ⟨gc, 1, none⟩), .int .i64 q.V, .pointer (some ⟨gc, 0, none⟩), .pointer (some ⟨gc, 0, none⟩), .pointer (some ⟨gc, 2, none⟩), .int .i64 q.S, .bool false, .bool true] : List Value)).map (·.1)) = [5, 6, 7, 8, 9, 10, 11, 12, 13, 14, 15, 16, 17, 18, 19] := rfl
  refine wp_region_valsG ([evV e, .pointer (some ⟨gc, 0, none⟩), .pointer (some ⟨gc, 0, none⟩), .pointer (some ⟨gc, 0, none⟩), .int .i64 q.T, .pointer (some ⟨gc, 0, none⟩), .pointer (some ⟨gc, 0, none⟩), .pointer (some ⟨gc, 1, none⟩), .int .i64 q.V, .pointer (some ⟨gc, 0, none⟩), .pointer (some ⟨gc, 0, none⟩), .pointer (some ⟨gc, 2, none⟩), .int .i64 q.S, .bool false, .bool true] : List Value) [true, true, true, true, true, true, true, true, true, true, true, true, true, true, true] rgTells1f_D (fun don w => Below W.heap.size W w) W T0 (by rw [hds]; decide) (fun x hx => ?_) (by kernel_rfl) (by kernel_rfl) (fun i o j want ho hg => ?_) (fun i hi hon => ?_) (fun i hi hon don w hM => ?_) ?_ ?_ ?_
  · rw [hds] at hx
    have hall : (([5, 6, 7, 8, 9, 10, 11, 12, 13, 14, 15, 16, 17, 18, 19] : List Nat).all fun d => decide (d < 20)) = true := by decide
    have := List.all_eq_true.1 hall x hx
    simp only [decide_eq_true_eq] at this
    omega
  · have hi : i < 15 := by rw [← hos]; exact (Array.getElem?_eq_some_iff.1 ho).1
    have h1 := List.all_eq_true.1 hga i (by simpa using hi)
    rw [ho] at h1
    simp only [hg, beq_iff_eq] at h1
    match i, hi with
    | 0, _ => cases h1
    | 1, _ => cases h1
    | 2, _ => cases h1
    | 3, _ => cases h1
    | 4, _ => cases h1
    | 5, _ => cases h1
    | 6, _ => cases h1
    | 7, _ => cases h1
    | 8, _ => cases h1
    | 9, _ => cases h1
    | 10, _ => cases h1
    | 11, _ => cases h1
    | 12, _ => cases h1
    | 13, _ => cases h1
    | 14, _ => cases h1
    | i + 15, h => exact absurd (show i + 15 < 15 from h) (by omega)
  · match i, hi with
    | 0, _ => cases hon
    | 1, _ => cases hon
    | 2, _ => cases hon
    | 3, _ => cases hon
    | 4, _ => cases hon
    | 5, _ => cases hon
    | 6, _ => cases hon
    | 7, _ => cases hon
    | 8, _ => cases hon
    | 9, _ => cases hon
    | 10, _ => cases hon
    | 11, _ => cases hon
    | 12, _ => cases hon
    | 13, _ => cases hon
    | 14, _ => cases hon
    | i + 15, h => exact absurd (show i + 15 < 15 from h) (by omega)
  · match i, hi with
    | 0, _ => cases hon
    | 1, _ => cases hon
    | 2, _ => cases hon
    | 3, _ => cases hon
    | 4, _ => cases hon
    | 5, _ => cases hon
    | 6, _ => cases hon
    | 7, _ => cases hon
    | 8, _ => cases hon
    | 9, _ => cases hon
    | 10, _ => cases hon
    | 11, _ => cases hon
    | 12, _ => cases hon
    | 13, _ => cases hon
    | 14, _ => cases hon
    | i + 15, h => exact absurd (show i + 15 < 15 from h) (by omega)
  · exact (Below.refl _ _).drew
  · intro i oo ho hi hon don a w hT hU hdi hM K hK
    rw [hds] at hT
    have hT0 : ∀ t v, t ∉ ([5, 6, 7, 8, 9, 10, 11, 12, 13, 14, 15, 16, 17, 18, 19] : List Nat) → T0[t]? = some v → a.tmps[t]?.getD undef = v := fun t v ht hv => by rw [hT t ht, hv]; rfl
    match i, hi with
    | 0, _ => exact u_loadE 3 (opAtW ho (by kernel_rfl)) (hT0 3 _ (by decide) h3) (⟨rfl, he.below hM⟩) (hK w hM)
    | 1, _ => exact v_move 0 (opAtW ho (by kernel_rfl)) (hT0 0 _ (by decide) h0) (hK w hM)
    | 2, _ => exact u_nil 6 (opAtW ho (by kernel_rfl)) ((hU 1 (by kernel_rfl)).2 6 rfl) (hK w hM)
    | 3, _ => exact u_f81_0 7 (opAtW ho (by kernel_rfl)) ((hU 2 (by kernel_rfl)).2 7 rfl) (hK w hM)
    | 4, _ => exact u_loadi 8 (opAtW ho (by kernel_rfl)) ((hU 3 (by kernel_rfl)).2 8 rfl) ((hcd.below hM).cT) (hK w hM)
    | 5, _ => exact v_move 0 (opAtW ho (by kernel_rfl)) (hT0 0 _ (by decide) h0) (hK w hM)
    | 6, _ => exact u_nil 10 (opAtW ho (by kernel_rfl)) ((hU 5 (by kernel_rfl)).2 10 rfl) (hK w hM)
    | 7, _ => exact u_f81_1 11 (opAtW ho (by kernel_rfl)) ((hU 6 (by kernel_rfl)).2 11 rfl) (hK w hM)
    | 8, _ => exact u_loadi 12 (opAtW ho (by kernel_rfl)) ((hU 7 (by kernel_rfl)).2 12 rfl) ((hcd.below hM).cV) (hK w hM)
    | 9, _ => exact v_move 0 (opAtW ho (by kernel_rfl)) (hT0 0 _ (by decide) h0) (hK w hM)
    | 10, _ => exact u_nil 14 (opAtW ho (by kernel_rfl)) ((hU 9 (by kernel_rfl)).2 14 rfl) (hK w hM)
    | 11, _ => exact u_f81_2 15 (opAtW ho (by kernel_rfl)) ((hU 10 (by kernel_rfl)).2 15 rfl) (hK w hM)
    | 12, _ => exact u_loadi 16 (opAtW ho (by kernel_rfl)) ((hU 11 (by kernel_rfl)).2 16 rfl) ((hcd.below hM).cS) (hK w hM)
    | 13, _ =>
      have x5 : a.tmps[5]?.getD undef = evV e := ((hU 0 (by kernel_rfl)).2 5 rfl)
      have x9 : a.tmps[9]?.getD undef = .int .i64 q.T := ((hU 4 (by kernel_rfl)).2 9 rfl)
      have x13 : a.tmps[13]?.getD undef = .int .i64 q.V := ((hU 8 (by kernel_rfl)).2 13 rfl)
      have x17 : a.tmps[17]?.getD undef = .int .i64 q.S := ((hU 12 (by kernel_rfl)).2 17 rfl)
      obtain ⟨dst, op, type, pos, after, guard⟩ := oo
      have ho' : op = .call { callee := .value (.func 48), args := #[.tmp 5, .tmp 9, .tmp 13, .tmp 17], argTypes := #[46, 3, 3, 3] } := opAtW ho (by kernel_rfl)
      subst ho'
      clear ho hT hU hT0
      have hfun := Tryd.func48
      go_simp
      refine (HC w hM).mono ?_
      rintro _ w' ⟨rfl, h1⟩
      exact hK w' (hM.trans (h1.mono hM.size))
    | 14, _ => exact u_notF 18 (opAtW ho (by kernel_rfl)) ((hU 13 (by kernel_rfl)).2 18 rfl) (hK w hM)
    | i + 15, h => exact absurd (show i + 15 < 15 from h) (by omega)
  · intro w hM
    exact hend w (hM)

noncomputable def rgKn4_ops : Array Oper := opsW Tryd.f39 4
def rgKn4_D : List (Option Nat) := [some 13, some 14, some 15, some 16, some 17, some 18, some 19, some 20, some 21, some 22, none, some 23, some 24, some 25, none]
set_option maxRecDepth 100000 in
set_option maxHeartbeats 4000000 in
theorem rgKn4 {id : Nat} {ops : Array Oper} (hops : ops = rgKn4_ops) (T0 : Array Value) (hsz : 26 ≤ T0.size) (W : World) (gc ge t : Nat) (ht : t < 6) (hgg : ge ≠ gc) (q : Cd) (e : Ev) (he : EvO W ge e) (hth : e.th = (t : Int)) (hcd : RCod W gc q) (h0 : T0[0]? = some (.pointer (some ⟨gc, 0, none⟩))) (h3 : T0[3]? = some (.pointer (some ⟨ge, 0, none⟩))) {Q : Exit → Act → World → Prop}
    (hend : ∀ w : World, RCod w gc { q with clk := e.v, bg := put q.bg t e.v } ∧ Kp gc none W w → Q .normal ⟨putAll T0 [13, 14, 15, 16, 17, 18, 19, 20, 21, 22, 23, 24, 25] [.pointer (some ⟨gc, 0, none⟩), .pointer (some ⟨gc, 0, none⟩), .pointer (some ⟨ge, 1, none⟩), .int .i64 (t : Int), .pointer (some ⟨ge, 4, none⟩), .int .i64 e.v, .pointer (some ⟨ge, 4, none⟩), .int .i64 e.v, .pointer (some ⟨gc, 0, none⟩), .pointer (some ⟨gc, 4, none⟩), .pointer (some ⟨gc, 0, none⟩), .pointer (some ⟨gc, 5, none⟩), .pointer (some ⟨gc, 5 + t, none⟩)], []⟩ w) : (Code.region id ops true).wp Tryd.prog Q ⟨T0, []⟩ W := by
  subst hops
  have hos : rgKn4_ops.size = 15 := by kernel_rfl
  have hga : (List.range 15).all (fun i => match rgKn4_ops[i]? with | some o => o.guard == ([none, none, none, none, none, none, none, none, none, none, none, none, none, none, none] : List (Option (Nat × Bool))).getD i none | none => false) = true := by kernel_rfl
  have hds : ((pairsS rgKn4_D ([.pointer (some ⟨gc, 0, none⟩), .pointer (some ⟨gc, 0, none⟩), .pointer (some ⟨ge, 1, none⟩), .int .i64 (t : Int), .pointer (some ⟨ge, 4, none⟩), .int .i64 e.v, .pointer (some ⟨ge, 4, none⟩), .int .i64 e.v, .pointer (some ⟨gc, 0, none⟩), .pointer (some ⟨gc, 4, none⟩), undef, .pointer (some ⟨gc, 0, none⟩), .pointer (some ⟨gc, 5, none⟩), .pointer (some ⟨gc, 5 + t, none⟩), undef] : List Value)).map (·.1)) = [13, 14, 15, 16, 17, 18, 19, 20, 21, 22, 23, 24, 25] := rfl
  refine wp_region_valsG ([.pointer (some ⟨gc, 0, none⟩), .pointer (some ⟨gc, 0, none⟩), .pointer (some ⟨ge, 1, none⟩), .int .i64 (t : Int), .pointer (some ⟨ge, 4, none⟩), .int .i64 e.v, .pointer (some ⟨ge, 4, none⟩), .int .i64 e.v, .pointer (some ⟨gc, 0, none⟩), .pointer (some ⟨gc, 4, none⟩), undef, .pointer (some ⟨gc, 0, none⟩), .pointer (some ⟨gc, 5, none⟩), .pointer (some ⟨gc, 5 + t, none⟩), undef] : List Value) [true, true, true, true, true, true, true, true, true, true, true, true, true, true, true] rgKn4_D (fun don w => EvO w ge e ∧ RCod w gc { q with clk := cond (don 10) e.v q.clk, bg := cond (don 14) (put q.bg t e.v) q.bg } ∧ Kp gc none W w) W T0 (by rw [hds]; decide) (fun x hx => ?_) (by kernel_rfl) (by kernel_rfl) (fun i o j want ho hg => ?_) (fun i hi hon => ?_) (fun i hi hon don w hM => ?_) ?_ ?_ ?_
  · rw [hds] at hx
    have hall : (([13, 14, 15, 16, 17, 18, 19, 20, 21, 22, 23, 24, 25] : List Nat).all fun d => decide (d < 26)) = true := by decide
    have := List.all_eq_true.1 hall x hx
    simp only [decide_eq_true_eq] at this
    omega
  · have hi : i < 15 := by rw [← hos]; exact (Array.getElem?_eq_some_iff.1 ho).1
    have h1 := List.all_eq_true.1 hga i (by simpa using hi)
    rw [ho] at h1
    simp only [hg, beq_iff_eq] at h1
    match i, hi with
    | 0, _ => cases h1
    | 1, _ => cases h1
    | 2, _ => cases h1
    | 3, _ => cases h1
    | 4, _ => cases h1
    | 5, _ => cases h1
    | 6, _ => cases h1
    | 7, _ => cases h1
    | 8, _ => cases h1
    | 9, _ => cases h1
    | 10, _ => cases h1
    | 11, _ => cases h1
    | 12, _ => cases h1
    | 13, _ => cases h1
    | 14, _ => cases h1
    | i + 15, h => exact absurd (show i + 15 < 15 from h) (by omega)
  · match i, hi with
    | 0, _ => cases hon
    | 1, _ => cases hon
    | 2, _ => cases hon
    | 3, _ => cases hon
    | 4, _ => cases hon
    | 5, _ => cases hon
    | 6, _ => cases hon
    | 7, _ => cases hon
    | 8, _ => cases hon
    | 9, _ => cases hon
    | 10, _ => cases hon
    | 11, _ => cases hon
    | 12, _ => cases hon
    | 13, _ => cases hon
    | 14, _ => cases hon
    | i + 15, h => exact absurd (show i + 15 < 15 from h) (by omega)
  · match i, hi with
    | 0, _ => cases hon
    | 1, _ => cases hon
    | 2, _ => cases hon
    | 3, _ => cases hon
    | 4, _ => cases hon
    | 5, _ => cases hon
    | 6, _ => cases hon
    | 7, _ => cases hon
    | 8, _ => cases hon
    | 9, _ => cases hon
    | 10, _ => cases hon
    | 11, _ => cases hon
    | 12, _ => cases hon
    | 13, _ => cases hon
    | 14, _ => cases hon
    | i + 15, h => exact absurd (show i + 15 < 15 from h) (by omega)
  · exact ⟨he, hcd, kp_below ((Below.refl _ _).drew)⟩
  · intro i oo ho hi hon don a w hT hU hdi hM K hK
    rw [hds] at hT
    have hT0 : ∀ t v, t ∉ ([13, 14, 15, 16, 17, 18, 19, 20, 21, 22, 23, 24, 25] : List Nat) → T0[t]? = some v → a.tmps[t]?.getD undef = v := fun t v ht hv => by rw [hT t ht, hv]; rfl
    match i, hi with
    | 0, _ => exact v_move 0 (opAtW ho (by kernel_rfl)) (hT0 0 _ (by decide) h0) (hK w hM)
    | 1, _ => exact v_move 0 (opAtW ho (by kernel_rfl)) (hT0 0 _ (by decide) h0) (hK w hM)
    | 2, _ => exact u_f41_1 3 (opAtW ho (by kernel_rfl)) (hT0 3 _ (by decide) h3) (hK w hM)
    | 3, _ => exact u_loadi 15 (opAtW ho (by kernel_rfl)) ((hU 2 (by kernel_rfl)).2 15 rfl) (by rw [← hth]; exact hM.1.c1) (hK w hM)
    | 4, _ => exact u_f41_4 3 (opAtW ho (by kernel_rfl)) (hT0 3 _ (by decide) h3) (hK w hM)
    | 5, _ => exact u_loadi 17 (opAtW ho (by kernel_rfl)) ((hU 4 (by kernel_rfl)).2 17 rfl) (hM.1.c4) (hK w hM)
    | 6, _ => exact u_f41_4 3 (opAtW ho (by kernel_rfl)) (hT0 3 _ (by decide) h3) (hK w hM)
    | 7, _ => exact u_loadi 19 (opAtW ho (by kernel_rfl)) ((hU 6 (by kernel_rfl)).2 19 rfl) (hM.1.c4) (hK w hM)
    | 8, _ => exact u_nil 13 (opAtW ho (by kernel_rfl)) ((hU 0 (by kernel_rfl)).2 13 rfl) (hK w hM)
    | 9, _ => exact u_f81_4 21 (opAtW ho (by kernel_rfl)) ((hU 8 (by kernel_rfl)).2 21 rfl) (hK w hM)
    | 10, _ =>
      have x22 : a.tmps[22]?.getD undef = .pointer (some ⟨gc, 4, none⟩) := ((hU 9 (by kernel_rfl)).2 22 rfl)
      have x18 : a.tmps[18]?.getD undef = .int .i64 e.v := ((hU 5 (by kernel_rfl)).2 18 rfl)
      obtain ⟨m1, m2, m3⟩ := hM
      have ky := kp_set w gc 4 (.int .i64 e.v)
      exact u_storei 22 18 (opAtW ho (by kernel_rfl)) x22 x18 (m2.cell (i := 4) (by omega)) (m2.fr 4) (hK _ ⟨m1.same (ky.block ge m1.lt hgg (by simp)), m2.set (by omega) e.v (fun j hj => rput_clk e.v j hj), m3.trans ky⟩)
    | 11, _ => exact u_nil 14 (opAtW ho (by kernel_rfl)) ((hU 1 (by kernel_rfl)).2 14 rfl) (hK w hM)
    | 12, _ => exact u_f81_5 23 (opAtW ho (by kernel_rfl)) ((hU 11 (by kernel_rfl)).2 23 rfl) (hK w hM)
    | 13, _ => exact u_i79 24 16 (k := t) ht (opAtW ho (by kernel_rfl)) ((hU 12 (by kernel_rfl)).2 24 rfl) ((hU 3 (by kernel_rfl)).2 16 rfl) (hK w hM)
    | 14, _ =>
      have x25 : a.tmps[25]?.getD undef = .pointer (some ⟨gc, 5 + t, none⟩) := ((hU 13 (by kernel_rfl)).2 25 rfl)
      have x20 : a.tmps[20]?.getD undef = .int .i64 e.v := ((hU 7 (by kernel_rfl)).2 20 rfl)
      obtain ⟨m1, m2, m3⟩ := hM
      rw [hdi] at m2
      have m2 : RCod w gc { q with clk := cond (don 10) e.v q.clk } := m2
      have ky := kp_set w gc (5 + t) (.int .i64 e.v)
      exact u_storei 25 20 (opAtW ho (by kernel_rfl)) x25 x20 (m2.cell (i := 5 + t) (by omega)) (m2.fr _) (hK _ ⟨m1.same (ky.block ge m1.lt hgg (by simp)), m2.set (by omega) e.v (fun j hj => rput_bg ht e.v j hj), m3.trans ky⟩)
    | i + 15, h => exact absurd (show i + 15 < 15 from h) (by omega)
  · intro w hM
    exact hend w (hM.2)

noncomputable def rgKn6_ops : Array Oper := opsW Tryd.f39 6
def rgKn6_D : List (Option Nat) := [some 28, some 29, some 30, some 31, some 32, some 33, some 34, some 35, some 36, some 37, none, some 38, some 39, some 40, none]
set_option maxRecDepth 100000 in
set_option maxHeartbeats 4000000 in
theorem rgKn6 {id : Nat} {ops : Array Oper} (hops : ops = rgKn6_ops) (T0 : Array Value) (hsz : 41 ≤ T0.size) (W : World) (gc ge t : Nat) (ht : t < 6) (hgg : ge ≠ gc) (q : Cd) (e : Ev) (he : EvO W ge e) (hth : e.th = (t : Int)) (hcd : RCod W gc q) (h0 : T0[0]? = some (.pointer (some ⟨gc, 0, none⟩))) (h3 : T0[3]? = some (.pointer (some ⟨ge, 0, none⟩))) {Q : Exit → Act → World → Prop}
    (hend : ∀ w : World, RCod w gc { q with clk := e.v, bp := put q.bp t e.v } ∧ Kp gc none W w → Q .normal ⟨putAll T0 [28, 29, 30, 31, 32, 33, 34, 35, 36, 37, 38, 39, 40] [.pointer (some ⟨gc, 0, none⟩), .pointer (some ⟨gc, 0, none⟩), .pointer (some ⟨ge, 1, none⟩), .int .i64 (t : Int), .pointer (some ⟨ge, 4, none⟩), .int .i64 e.v, .pointer (some ⟨ge, 4, none⟩), .int .i64 e.v, .pointer (some ⟨gc, 0, none⟩), .pointer (some ⟨gc, 4, none⟩), .pointer (some ⟨gc, 0, none⟩), .pointer (some ⟨gc, 11, none⟩), .pointer (some ⟨gc, 11 + t, none⟩)], []⟩ w) : (Code.region id ops true).wp Tryd.prog Q ⟨T0, []⟩ W := by
  subst hops
  have hos : rgKn6_ops.size = 15 := by kernel_rfl
  have hga : (List.range 15).all (fun i => match rgKn6_ops[i]? with | some o => o.guard == ([none, none, none, none, none, none, none, none, none, none, none, none, none, none, none] : List (Option (Nat × Bool))).getD i none | none => false) = true := by kernel_rfl
  have hds : ((pairsS rgKn6_D ([.pointer (some ⟨gc, 0, none⟩), .pointer (some ⟨gc, 0, none⟩), .pointer (some ⟨ge, 1, none⟩), .int .i64 (t : Int), .pointer (some ⟨ge, 4, none⟩), .int .i64 e.v, .pointer (some ⟨ge, 4, none⟩), .int .i64 e.v, .pointer (some ⟨gc, 0, none⟩), .pointer (some ⟨gc, 4, none⟩), undef, .pointer (some ⟨gc, 0, none⟩), .pointer (some ⟨gc, 11, none⟩), .pointer (some ⟨gc, 11 + t, none⟩), undef] : List Value)).map (·.1)) = [28, 29, 30, 31, 32, 33, 34, 35, 36, 37, 38, 39, 40] := rfl
  refine wp_region_valsG ([.pointer (some ⟨gc, 0, none⟩), .pointer (some ⟨gc, 0, none⟩), .pointer (some ⟨ge, 1, none⟩), .int .i64 (t : Int), .pointer (some ⟨ge, 4, none⟩), .int .i64 e.v, .pointer (some ⟨ge, 4, none⟩), .int .i64 e.v, .pointer (some ⟨gc, 0, none⟩), .pointer (some ⟨gc, 4, none⟩), undef, .pointer (some ⟨gc, 0, none⟩), .pointer (some ⟨gc, 11, none⟩), .pointer (some ⟨gc, 11 + t, none⟩), undef] : List Value) [true, true, true, true, true, true, true, true, true, true, true, true, true, true, true] rgKn6_D (fun don w => EvO w ge e ∧ RCod w gc { q with clk := cond (don 10) e.v q.clk, bp := cond (don 14) (put q.bp t e.v) q.bp } ∧ Kp gc none W w) W T0 (by rw [hds]; decide) (fun x hx => ?_) (by kernel_rfl) (by kernel_rfl) (fun i o j want ho hg => ?_) (fun i hi hon => ?_) (fun i hi hon don w hM => ?_) ?_ ?_ ?_
  · rw [hds] at hx
    have hall : (([28, 29, 30, 31, 32, 33, 34, 35, 36, 37, 38, 39, 40] : List Nat).all fun d => decide (d < 41)) = true := by decide
    have := List.all_eq_true.1 hall x hx
    simp only [decide_eq_true_eq] at this
    omega
  · have hi : i < 15 := by rw [← hos]; exact (Array.getElem?_eq_some_iff.1 ho).1
    have h1 := List.all_eq_true.1 hga i (by simpa using hi)
    rw [ho] at h1
    simp only [hg, beq_iff_eq] at h1
    match i, hi with
    | 0, _ => cases h1
    | 1, _ => cases h1
    | 2, _ => cases h1
    | 3, _ => cases h1
    | 4, _ => cases h1
    | 5, _ => cases h1
    | 6, _ => cases h1
    | 7, _ => cases h1
    | 8, _ => cases h1
    | 9, _ => cases h1
    | 10, _ => cases h1
    | 11, _ => cases h1
    | 12, _ => cases h1
    | 13, _ => cases h1
    | 14, _ => cases h1
    | i + 15, h => exact absurd (show i + 15 < 15 from h) (by omega)
  · match i, hi with
    | 0, _ => cases hon
    | 1, _ => cases hon
    | 2, _ => cases hon
    | 3, _ => cases hon
    | 4, _ => cases hon
    | 5, _ => cases hon
    | 6, _ => cases hon
    | 7, _ => cases hon
    | 8, _ => cases hon
    | 9, _ => cases hon
    | 10, _ => cases hon
    | 11, _ => cases hon
    | 12, _ => cases hon
    | 13, _ => cases hon
    | 14, _ => cases hon
    | i + 15, h => exact absurd (show i + 15 < 15 from h) (by omega)
  · match i, hi with
    | 0, _ => cases hon
    | 1, _ => cases hon
    | 2, _ => cases hon
    | 3, _ => cases hon
    | 4, _ => cases hon
    | 5, _ => cases hon
    | 6, _ => cases hon
    | 7, _ => cases hon
    | 8, _ => cases hon
    | 9, _ => cases hon
    | 10, _ => cases hon
    | 11, _ => cases hon
    | 12, _ => cases hon
    | 13, _ => cases hon
    | 14, _ => cases hon
    | i + 15, h => exact absurd (show i + 15 < 15 from h) (by omega)
  · exact ⟨he, hcd, kp_below ((Below.refl _ _).drew)⟩
  · intro i oo ho hi hon don a w hT hU hdi hM K hK
    rw [hds] at hT
    have hT0 : ∀ t v, t ∉ ([28, 29, 30, 31, 32, 33, 34, 35, 36, 37, 38, 39, 40] : List Nat) → T0[t]? = some v → a.tmps[t]?.getD undef = v := fun t v ht hv => by rw [hT t ht, hv]; rfl
    match i, hi with
    | 0, _ => exact v_move 0 (opAtW ho (by kernel_rfl)) (hT0 0 _ (by decide) h0) (hK w hM)
    | 1, _ => exact v_move 0 (opAtW ho (by kernel_rfl)) (hT0 0 _ (by decide) h0) (hK w hM)
    | 2, _ => exact u_f41_1 3 (opAtW ho (by kernel_rfl)) (hT0 3 _ (by decide) h3) (hK w hM)
    | 3, _ => exact u_loadi 30 (opAtW ho (by kernel_rfl)) ((hU 2 (by kernel_rfl)).2 30 rfl) (by rw [← hth]; exact hM.1.c1) (hK w hM)
    | 4, _ => exact u_f41_4 3 (opAtW ho (by kernel_rfl)) (hT0 3 _ (by decide) h3) (hK w hM)
    | 5, _ => exact u_loadi 32 (opAtW ho (by kernel_rfl)) ((hU 4 (by kernel_rfl)).2 32 rfl) (hM.1.c4) (hK w hM)
    | 6, _ => exact u_f41_4 3 (opAtW ho (by kernel_rfl)) (hT0 3 _ (by decide) h3) (hK w hM)
    | 7, _ => exact u_loadi 34 (opAtW ho (by kernel_rfl)) ((hU 6 (by kernel_rfl)).2 34 rfl) (hM.1.c4) (hK w hM)
    | 8, _ => exact u_nil 28 (opAtW ho (by kernel_rfl)) ((hU 0 (by kernel_rfl)).2 28 rfl) (hK w hM)
    | 9, _ => exact u_f81_4 36 (opAtW ho (by kernel_rfl)) ((hU 8 (by kernel_rfl)).2 36 rfl) (hK w hM)
    | 10, _ =>
      have x37 : a.tmps[37]?.getD undef = .pointer (some ⟨gc, 4, none⟩) := ((hU 9 (by kernel_rfl)).2 37 rfl)
      have x33 : a.tmps[33]?.getD undef = .int .i64 e.v := ((hU 5 (by kernel_rfl)).2 33 rfl)
      obtain ⟨m1, m2, m3⟩ := hM
      have ky := kp_set w gc 4 (.int .i64 e.v)
      exact u_storei 37 33 (opAtW ho (by kernel_rfl)) x37 x33 (m2.cell (i := 4) (by omega)) (m2.fr 4) (hK _ ⟨m1.same (ky.block ge m1.lt hgg (by simp)), m2.set (by omega) e.v (fun j hj => rput_clk e.v j hj), m3.trans ky⟩)
    | 11, _ => exact u_nil 29 (opAtW ho (by kernel_rfl)) ((hU 1 (by kernel_rfl)).2 29 rfl) (hK w hM)
    | 12, _ => exact u_f81_6 38 (opAtW ho (by kernel_rfl)) ((hU 11 (by kernel_rfl)).2 38 rfl) (hK w hM)
    | 13, _ => exact u_i79 39 31 (k := t) ht (opAtW ho (by kernel_rfl)) ((hU 12 (by kernel_rfl)).2 39 rfl) ((hU 3 (by kernel_rfl)).2 31 rfl) (hK w hM)
    | 14, _ =>
      have x40 : a.tmps[40]?.getD undef = .pointer (some ⟨gc, 11 + t, none⟩) := ((hU 13 (by kernel_rfl)).2 40 rfl)
      have x35 : a.tmps[35]?.getD undef = .int .i64 e.v := ((hU 7 (by kernel_rfl)).2 35 rfl)
      obtain ⟨m1, m2, m3⟩ := hM
      rw [hdi] at m2
      have m2 : RCod w gc { q with clk := cond (don 10) e.v q.clk } := m2
      have ky := kp_set w gc (11 + t) (.int .i64 e.v)
      exact u_storei 40 35 (opAtW ho (by kernel_rfl)) x40 x35 (m2.cell (i := 11 + t) (by omega)) (m2.fr _) (hK _ ⟨m1.same (ky.block ge m1.lt hgg (by simp)), m2.set (by omega) e.v (fun j hj => rput_bp ht e.v j hj), m3.trans ky⟩)
    | i + 15, h => exact absurd (show i + 15 < 15 from h) (by omega)
  · intro w hM
    exact hend w (hM.2)

noncomputable def rgKn9_ops : Array Oper := opsW Tryd.f39 9
def rgKn9_D : List (Option Nat) := [some 44, some 45, some 46, some 47, some 48, some 49, some 50, some 51, none]
set_option maxRecDepth 100000 in
set_option maxHeartbeats 4000000 in
theorem rgKn9 {id : Nat} {ops : Array Oper} (hops : ops = rgKn9_ops) (T0 : Array Value) (hsz : 52 ≤ T0.size) (W : World) (gc ge v : Nat) (hv : v < 32) (hgg : ge ≠ gc) (q : Cd) (e : Ev) (he : EvO W ge e) (hpl : e.pl = (v : Int)) (hcd : RCod W gc q) (h0 : T0[0]? = some (.pointer (some ⟨gc, 0, none⟩))) (h3 : T0[3]? = some (.pointer (some ⟨ge, 0, none⟩))) {Q : Exit → Act → World → Prop}
    (hend : ∀ w : World, RCod w gc { q with xs := put q.xs v e.x } ∧ Kp gc none W w → Q .normal ⟨putAll T0 [44, 45, 46, 47, 48, 49, 50, 51] [.pointer (some ⟨gc, 0, none⟩), .pointer (some ⟨ge, 3, none⟩), .int .i64 (v : Int), .pointer (some ⟨ge, 5, none⟩), .int .i64 e.x, .pointer (some ⟨gc, 0, none⟩), .pointer (some ⟨gc, 17, none⟩), .pointer (some ⟨gc, 17 + v, none⟩)], []⟩ w) : (Code.region id ops true).wp Tryd.prog Q ⟨T0, []⟩ W := by
  subst hops
  have hos : rgKn9_ops.size = 9 := by kernel_rfl
  have hga : (List.range 9).all (fun i => match rgKn9_ops[i]? with | some o => o.guard == ([none, none, none, none, none, none, none, none, none] : List (Option (Nat × Bool))).getD i none | none => false) = true := by kernel_rfl
  have hds : ((pairsS rgKn9_D ([.pointer (some ⟨gc, 0, none⟩), .pointer (some ⟨ge, 3, none⟩), .int .i64 (v : Int), .pointer (some ⟨ge, 5, none⟩), .int .i64 e.x, .pointer (some ⟨gc, 0, none⟩), .pointer (some ⟨gc, 17, none⟩), .pointer (some ⟨gc, 17 + v, none⟩), undef] : List Value)).map (·.1)) = [44, 45, 46, 47, 48, 49, 50, 51] := rfl
  refine wp_region_valsG ([.pointer (some ⟨gc, 0, none⟩), .pointer (some ⟨ge, 3, none⟩), .int .i64 (v : Int), .pointer (some ⟨ge, 5, none⟩), .int .i64 e.x, .pointer (some ⟨gc, 0, none⟩), .pointer (some ⟨gc, 17, none⟩), .pointer (some ⟨gc, 17 + v, none⟩), undef] : List Value) [true, true, true, true, true, true, true, true, true] rgKn9_D (fun don w => EvO w ge e ∧ RCod w gc { q with xs := cond (don 8) (put q.xs v e.x) q.xs } ∧ Kp gc none W w) W T0 (by rw [hds]; decide) (fun x hx => ?_) (by kernel_rfl) (by kernel_rfl) (fun i o j want ho hg => ?_) (fun i hi hon => ?_) (fun i hi hon don w hM => ?_) ?_ ?_ ?_
  · rw [hds] at hx
    have hall : (([44, 45, 46, 47, 48, 49, 50, 51] : List Nat).all fun d => decide (d < 52)) = true := by decide
    have := List.all_eq_true.1 hall x hx
    simp only [decide_eq_true_eq] at this
    omega
  · have hi : i < 9 := by rw [← hos]; exact (Array.getElem?_eq_some_iff.1 ho).1
    have h1 := List.all_eq_true.1 hga i (by simpa using hi)
    rw [ho] at h1
    simp only [hg, beq_iff_eq] at h1
    match i, hi with
    | 0, _ => cases h1
    | 1, _ => cases h1
    | 2, _ => cases h1
    | 3, _ => cases h1
    | 4, _ => cases h1
    | 5, _ => cases h1
    | 6, _ => cases h1
    | 7, _ => cases h1
    | 8, _ => cases h1
    | i + 9, h => exact absurd (show i + 9 < 9 from h) (by omega)
  · match i, hi with
    | 0, _ => cases hon
    | 1, _ => cases hon
    | 2, _ => cases hon
    | 3, _ => cases hon
    | 4, _ => cases hon
    | 5, _ => cases hon
    | 6, _ => cases hon
    | 7, _ => cases hon
    | 8, _ => cases hon
    | i + 9, h => exact absurd (show i + 9 < 9 from h) (by omega)
  · match i, hi with
    | 0, _ => cases hon
    | 1, _ => cases hon
    | 2, _ => cases hon
    | 3, _ => cases hon
    | 4, _ => cases hon
    | 5, _ => cases hon
    | 6, _ => cases hon
    | 7, _ => cases hon
    | 8, _ => cases hon
    | i + 9, h => exact absurd (show i + 9 < 9 from h) (by omega)
  · exact ⟨he, hcd, kp_below ((Below.refl _ _).drew)⟩
  · intro i oo ho hi hon don a w hT hU hdi hM K hK
    rw [hds] at hT
    have hT0 : ∀ t v, t ∉ ([44, 45, 46, 47, 48, 49, 50, 51] : List Nat) → T0[t]? = some v → a.tmps[t]?.getD undef = v := fun t v ht hv => by rw [hT t ht, hv]; rfl
    match i, hi with
    | 0, _ => exact v_move 0 (opAtW ho (by kernel_rfl)) (hT0 0 _ (by decide) h0) (hK w hM)
    | 1, _ => exact u_f41_3 3 (opAtW ho (by kernel_rfl)) (hT0 3 _ (by decide) h3) (hK w hM)
    | 2, _ => exact u_loadi 45 (opAtW ho (by kernel_rfl)) ((hU 1 (by kernel_rfl)).2 45 rfl) (by rw [← hpl]; exact hM.1.c3) (hK w hM)
    | 3, _ => exact u_f41_5 3 (opAtW ho (by kernel_rfl)) (hT0 3 _ (by decide) h3) (hK w hM)
    | 4, _ => exact u_loadl 47 (opAtW ho (by kernel_rfl)) ((hU 3 (by kernel_rfl)).2 47 rfl) (hM.1.c5) (hK w hM)
    | 5, _ => exact u_nil 44 (opAtW ho (by kernel_rfl)) ((hU 0 (by kernel_rfl)).2 44 rfl) (hK w hM)
    | 6, _ => exact u_f81_7 49 (opAtW ho (by kernel_rfl)) ((hU 5 (by kernel_rfl)).2 49 rfl) (hK w hM)
    | 7, _ => exact u_i76 50 46 (k := v) hv (opAtW ho (by kernel_rfl)) ((hU 6 (by kernel_rfl)).2 50 rfl) ((hU 2 (by kernel_rfl)).2 46 rfl) (hK w hM)
    | 8, _ =>
      have x51 : a.tmps[51]?.getD undef = .pointer (some ⟨gc, 17 + v, none⟩) := ((hU 7 (by kernel_rfl)).2 51 rfl)
      have x48 : a.tmps[48]?.getD undef = .int .i64 e.x := ((hU 4 (by kernel_rfl)).2 48 rfl)
      obtain ⟨m1, m2, m3⟩ := hM
      rw [hdi] at m2
      have m2 : RCod w gc q := m2
      have ky := kp_set w gc (17 + v) (.int .i64 e.x)
      exact u_storel 51 48 (opAtW ho (by kernel_rfl)) x51 x48 (m2.cell (i := 17 + v) (by omega)) (m2.fr _) (hK _ ⟨m1.same (ky.block ge m1.lt hgg (by simp)), m2.set (by omega) e.x (fun j hj => rput_xs hv e.x j hj), m3.trans ky⟩)
    | i + 9, h => exact absurd (show i + 9 < 9 from h) (by omega)
  · intro w hM
    exact hend w (hM.2)

end Go.Proofs.YtkfcglgikemefaaDoor
namespace Go.Proofs.YtkfcglgikemefaaDoor
set_option maxRecDepth 100000
open Go.RowKit Go.Deep
set_option linter.unusedVariables false
set_option linter.unusedSimpArgs false
set_option maxHeartbeats 4000000 in
theorem rtells_any (q : Cd) (hq : CdOk q) (e : Ev) (ok' : EvOk e) (gc : Nat) (w : World) (HM0 : ∀ w2, Below w.heap.size w w2 → Calls Tryd.prog 48 #[evV e, .int .i64 q.T, .int .i64 q.V, .int .i64 q.S] w2 fun r w' => r = .returned (.bool (mayB e q.T q.V q.S)) ∧ Below w2.heap.size w2 w') (hcd : RCod w gc q) :
    Calls Tryd.prog 36 #[.pointer (some ⟨gc, 0, none⟩), evV e] w fun r w' => r = .returned (.bool (mayT q e)) ∧ Below w.heap.size w w' := by
  obtain ⟨w1, hw1⟩ : ∃ w1, w.alloc (.cells (evC e) 46) = w1 := ⟨_, rfl⟩
  have hb1 : Below w.heap.size w w1 := by rw [← hw1]; exact (Below.refl _ _).alloc (Nat.le_refl _) _
  have he1 : EvO w1 w.heap.size e := by rw [← hw1]; exact heap_alloc_new w _
  have hc1 := hcd.below hb1
  have hM := fun w2 (hb : Below w1.heap.size w1 w2) => HM0 w2 (hb1.trans (hb.mono hb1.size))
  generalize hR : mayT q e = R
  have HR := Lib.hid hR
  have HB1 := Lib.hid hb1
  have HE1 := Lib.hid he1
  have HC1 := Lib.hid hc1
  have HM := Lib.hid hM
  have HQ := Lib.hid hq
  have HW := Lib.hid hw1
  clear hR hb1 he1 hc1 hM hcd hw1 HM0
  have HEV : Hid (evV e = .agg #[.int .u8 e.kd, .int .i64 e.th, .int .i64 e.tx, .int .i64 e.pl, .int .i64 e.v, .int .i64 e.x, .int .u8 e.why]) := rfl
  rw [HEV.out]
  by_cases hb : mayB e q.T q.V q.S = true
  rotate_left
  · have hb : mayB e q.T q.V q.S = false := by simpa using hb
    have hRR : R = false := by rw [← HR.out, mayT, hb, Bool.false_and]
    subst hRR
    have HM2 := Lib.hid (fun w2 hb2 => HM.out w2 hb2)
    rw [hb] at HM2
    clear HR HM hb ok'
    go_enter Tryd.func36, Tryd.ntmps36
    go_wp2_with fail
    rw [show w.alloc (.cells #[.int .u8 e.kd, .int .i64 e.th, .int .i64 e.tx, .int .i64 e.pl, .int .i64 e.v, .int .i64 e.x, .int .u8 e.why] 46) = w1 from HW.out]
    refine rgTells1f rfl _ (by simp) w1 gc w.heap.size q e HE1.out HC1.out HM2.out rfl rfl ?_
    intro w2 b2
    simp only [putAll, List.setIfInBounds_toArray, List.set_cons_succ, List.set_cons_zero]
    go_wp2_with fail
    go_ret
    exact ⟨rfl, HB1.out.trans (b2.mono HB1.out.size)⟩
  · have HM2 := Lib.hid (fun w2 hb2 => HM.out w2 hb2)
    rw [hb] at HM2
    obtain ⟨h0, h1, h2, hk⟩ := may_of hb hq
    obtain ⟨t, ht⟩ : ∃ t : Nat, e.th = t := ⟨e.th.toNat, by omega⟩
    have htn : e.th.toNat = t := by omega
    have ht6 : t < 6 := by omega
    have HR2 : Hid ((if e.kd = 1 then decide (q.clk ≤ e.v) else if e.kd = 2 then decide (e.v ≤ q.bg t) else if e.kd = 5 then decide (q.clk < e.v) else if e.kd = 7 then (e.v == 0 || e.v == q.bp t) else true) = R) := by
      show _ = _
      rw [← HR.out, mayT, hb, Bool.true_and, htn]
    have HT := Lib.hid ht
    have hkr : 1 ≤ e.kd ∧ e.kd ≤ 13 := by
      unfold MayK at hk
      omega
    obtain ⟨kk, hkk⟩ : ∃ kk, e.kd = kk := ⟨_, rfl⟩
    have HKK := Lib.hid hkk
    rw [hkk] at hkr HR2
    clear HR HM hb h0 h1 h2 hk htn ht hkk
    go_enter Tryd.func36, Tryd.ntmps36
    go_wp2_with fail
    rw [show w.alloc (.cells #[.int .u8 e.kd, .int .i64 e.th, .int .i64 e.tx, .int .i64 e.pl, .int .i64 e.v, .int .i64 e.x, .int .u8 e.why] 46) = w1 from HW.out]
    refine rgTells1t rfl _ (by simp) w1 gc w.heap.size q e HE1.out HC1.out HM2.out rfl rfl ?_
    intro w2 b2
    simp only [putAll, List.setIfInBounds_toArray, List.set_cons_succ, List.set_cons_zero]
    have E3 := Lib.hid (HE1.out.below b2)
    have C3 := Lib.hid (HC1.out.below b2)
    have B3 := Lib.hid (HB1.out.trans (b2.mono HB1.out.size))
    clear b2 HE1 HC1 HB1 HM2
    obtain ⟨ge, hge⟩ : ∃ g, g = w.heap.size := ⟨_, rfl⟩
    rw [← hge] at E3 ⊢
    have f0 : w2.cell? ⟨ge, 0, none⟩ = some (.int .u8 kk) := by rw [← HKK.out]; exact E3.out.c0
    have f4 : w2.cell? ⟨ge, 4, none⟩ = some (.int .i64 e.v) := E3.out.c4
    have fc : w2.cell? ⟨gc, 4, none⟩ = some (.int .i64 q.clk) := C3.out.cc
    have f1 : w2.cell? ⟨ge, 1, none⟩ = some (.int .i64 (t : Int)) := by rw [← HT.out]; exact E3.out.c1
    have i1 : (0 : Int) ≤ (t : Int) := by omega
    have i2 : (t : Int) < 6 := by omega
    have t0 : w2.cell? ⟨gc, 5 + t, none⟩ = some (.int .i64 (q.bg t)) := C3.out.cbg ht6
    have t1 : w2.cell? ⟨gc, 11 + t, none⟩ = some (.int .i64 (q.bp t)) := C3.out.cbp ht6
    clear hge HW
    generalize q.bg t = bg at *
    generalize q.bp t = bp at *
    by_cases k1 : kk = 1
    · subst k1
      obtain ⟨b, hb⟩ : ∃ b, decide (q.clk ≤ e.v) = b := ⟨_, rfl⟩
      have hRR : R = b := by rw [← HR2.out]; exact hb
      subst hRR
      clear HR2 hkr
      go_wp2_with fail
      go_quiet (fail)
      go_wp2_with fail
      go_ret
      exact ⟨rfl, (B3.out.trans ((drewN_belowW w2 _).mono B3.out.size))⟩
    by_cases k2 : kk = 2
    · subst k2
      obtain ⟨b, hb⟩ : ∃ b, decide (e.v ≤ bg) = b := ⟨_, rfl⟩
      have hRR : R = b := by rw [← HR2.out]; exact hb
      subst hRR
      clear HR2 hkr
      go_wp2_with fail
      go_quiet (fail)
      go_wp2_with fail
      go_ret
      exact ⟨rfl, (B3.out.trans ((drewN_belowW w2 _).mono B3.out.size))⟩
    by_cases k5 : kk = 5
    · subst k5
      obtain ⟨b, hb⟩ : ∃ b, decide (q.clk < e.v) = b := ⟨_, rfl⟩
      have hRR : R = b := by rw [← HR2.out]; exact hb
      subst hRR
      clear HR2 hkr
      go_wp2_with fail
      go_quiet (fail)
      go_wp2_with fail
      go_ret
      exact ⟨rfl, (B3.out.trans ((drewN_belowW w2 _).mono B3.out.size))⟩
    by_cases k7 : kk = 7
    · subst k7
      have hRR : R = (e.v == 0 || e.v == bp) := by rw [← HR2.out]; rfl
      clear HR2 hkr
      by_cases hv0 : e.v = 0
      · have q0 : (e.v == 0) = true := by simpa using hv0
        rw [q0, Bool.true_or] at hRR
        subst hRR
        clear hv0
        go_wp2_with fail
        go_quiet (fail)
        go_wp2_with fail
        go_ret
        exact ⟨rfl, (B3.out.trans ((drewN_belowW w2 _).mono B3.out.size))⟩
      · have q0 : (e.v == 0) = false := beq_eq_false_iff_ne.2 hv0
        rw [q0, Bool.false_or] at hRR
        obtain ⟨b, hb⟩ : ∃ b, (e.v == bp) = b := ⟨_, rfl⟩
        rw [hb] at hRR
        subst hRR
        clear hv0
        go_wp2_with fail
        go_quiet (fail)
        go_wp2_with fail
        go_ret
        exact ⟨rfl, (B3.out.trans ((drewN_belowW w2 _).mono B3.out.size))⟩
    have hRR : R = true := by rw [← HR2.out, if_neg k1, if_neg k2, if_neg k5, if_neg k7]
    subst hRR
    have q1 : (kk == 1) = false := beq_eq_false_iff_ne.2 k1
    have q2 : (kk == 2) = false := beq_eq_false_iff_ne.2 k2
    have q5 : (kk == 5) = false := beq_eq_false_iff_ne.2 k5
    have q7 : (kk == 7) = false := beq_eq_false_iff_ne.2 k7
    clear HR2 hkr k1 k2 k5 k7
    go_wp2_with fail
    go_ret
    exact ⟨rfl, B3.out⟩
set_option maxHeartbeats 4000000 in
theorem rknows_any (q : Cd) (e : Ev) (gc : Nat) (w : World) (hcd : RCod w gc q) (hth : 0 ≤ e.th ∧ e.th < 6) (hpl : e.kd = 3 ∨ e.kd = 8 → 0 ≤ e.pl ∧ e.pl < 32) :
    Calls Tryd.prog 39 #[.pointer (some ⟨gc, 0, none⟩), evV e] w fun r w' => r = .returned (.tuple #[]) ∧ RCod w' gc (knowQ q e) ∧ Kp gc none w w' := by
  obtain ⟨w1, hw1⟩ : ∃ w1, w.alloc (.cells (evC e) 46) = w1 := ⟨_, rfl⟩
  have hb1 : Below w.heap.size w w1 := by rw [← hw1]; exact (Below.refl _ _).alloc (Nat.le_refl _) _
  have he1 : EvO w1 w.heap.size e := by rw [← hw1]; exact heap_alloc_new w _
  have hc1 := hcd.below hb1
  have hne : w.heap.size ≠ gc := by have := hcd.lt; omega
  obtain ⟨w2, hw2⟩ : ∃ w2, w1.setCell ⟨gc, 3, none⟩ (.int .i64 e.th) = w2 := ⟨_, rfl⟩
  have k2 : Kp gc none w1 w2 := by rw [← hw2]; exact kp_set w1 gc 3 (.int .i64 e.th)
  have hc2 : RCod w2 gc { q with last := e.th } := by rw [← hw2]; exact hc1.set (by omega) e.th (fun j hj => rput_last e.th j hj)
  have he2 : EvO w2 w.heap.size e := he1.same (k2.block _ he1.lt hne (by simp))
  have K2 := Lib.hid ((kp_below hb1 : Kp gc none w w1).trans k2)
  have hw1' : w.alloc (.cells #[.int .u8 e.kd, .int .i64 e.th, .int .i64 e.tx, .int .i64 e.pl, .int .i64 e.v, .int .i64 e.x, .int .u8 e.why] 46) = w1 := hw1
  have d3 : (w.alloc (.cells #[.int .u8 e.kd, .int .i64 e.th, .int .i64 e.tx, .int .i64 e.pl, .int .i64 e.v, .int .i64 e.x, .int .u8 e.why] 46)).cell? ⟨gc, 3, none⟩ = some (.int .i64 q.last) := by rw [hw1']; exact hc1.cl
  have d4 : (w.alloc (.cells #[.int .u8 e.kd, .int .i64 e.th, .int .i64 e.tx, .int .i64 e.pl, .int .i64 e.v, .int .i64 e.x, .int .u8 e.why] 46)).frozen? ⟨gc, 3, none⟩ = false := by rw [hw1']; exact hc1.fr 3
  have f1 : (w.alloc (.cells #[.int .u8 e.kd, .int .i64 e.th, .int .i64 e.tx, .int .i64 e.pl, .int .i64 e.v, .int .i64 e.x, .int .u8 e.why] 46)).cell? ⟨w.heap.size, 1, none⟩ = some (.int .i64 e.th) := by rw [hw1']; exact he1.c1
  have hw2' : (w.alloc (.cells #[.int .u8 e.kd, .int .i64 e.th, .int .i64 e.tx, .int .i64 e.pl, .int .i64 e.v, .int .i64 e.x, .int .u8 e.why] 46)).setCell ⟨gc, 3, none⟩ (.int .i64 e.th) = w2 := by rw [hw1']; exact hw2
  obtain ⟨t, ht⟩ : ∃ t : Nat, e.th = t := ⟨e.th.toNat, by omega⟩
  have htn : e.th.toNat = t := by omega
  have ht6 : t < 6 := by omega
  have HPL := Lib.hid hpl
  generalize hR : knowQ q e = R
  have HR : Hid ((⟨q.T, q.V, q.S, e.th, if e.kd = 1 ∨ e.kd = 5 then e.v else q.clk, if e.kd = 1 then put q.bg t e.v else q.bg, if e.kd = 5 then put q.bp t e.v else q.bp, if e.kd = 3 ∨ e.kd = 8 then put q.xs e.pl.toNat e.x else q.xs⟩ : Cd) = R) := by
    show _ = _
    rw [← hR, knowQ, htn]
  have HE2 := Lib.hid he2
  have HC2 := Lib.hid hc2
  have HT := Lib.hid ht
  have HW := Lib.hid hw1
  have HW2 := Lib.hid hw2'
  obtain ⟨kk, hkk⟩ : ∃ kk, e.kd = kk := ⟨_, rfl⟩
  have f0 : ((w.alloc (.cells #[.int .u8 e.kd, .int .i64 e.th, .int .i64 e.tx, .int .i64 e.pl, .int .i64 e.v, .int .i64 e.x, .int .u8 e.why] 46)).setCell ⟨gc, 3, none⟩ (.int .i64 e.th)).cell? ⟨w.heap.size, 0, none⟩ = some (.int .u8 kk) := by rw [hw2', ← hkk]; exact he2.c0
  have HKK := Lib.hid hkk
  rw [hkk] at HPL HR
  have HEV : Hid (evV e = .agg #[.int .u8 e.kd, .int .i64 e.th, .int .i64 e.tx, .int .i64 e.pl, .int .i64 e.v, .int .i64 e.x, .int .u8 e.why]) := rfl
  rw [HEV.out]
  have hgg := Lib.hid hne
  have HLT := Lib.hid hcd.lt
  clear hR hb1 hc1 hw1' hw2' hw1 hw2 hc2 he2 htn ht hkk hpl hth hne hcd k2 he1
  by_cases k1 : kk = 1
  · subst k1
    have hRR : (⟨q.T, q.V, q.S, e.th, e.v, put q.bg t e.v, q.bp, q.xs⟩ : Cd) = R := by rw [← HR.out]; rfl
    clear HR HPL
    go_enter Tryd.func39, Tryd.ntmps39
    go_wp2_with fail
    rw [HW2.out]
    refine rgKn4 rfl _ (by simp) w2 gc w.heap.size t ht6 hgg.out _ e HE2.out HT.out HC2.out rfl rfl ?_
    rintro w4 ⟨x1, x2⟩
    simp only [putAll, List.setIfInBounds_toArray, List.set_cons_succ, List.set_cons_zero]
    go_wp2_with fail
    go_end0
    exact ⟨rfl, by rw [← hRR]; exact x1, K2.out.trans x2⟩
  by_cases k5 : kk = 5
  · subst k5
    have hRR : (⟨q.T, q.V, q.S, e.th, e.v, q.bg, put q.bp t e.v, q.xs⟩ : Cd) = R := by rw [← HR.out]; rfl
    clear HR HPL
    go_enter Tryd.func39, Tryd.ntmps39
    go_wp2_with fail
    rw [HW2.out]
    refine rgKn6 rfl _ (by simp) w2 gc w.heap.size t ht6 hgg.out _ e HE2.out HT.out HC2.out rfl rfl ?_
    rintro w4 ⟨x1, x2⟩
    simp only [putAll, List.setIfInBounds_toArray, List.set_cons_succ, List.set_cons_zero]
    go_wp2_with fail
    go_end0
    exact ⟨rfl, by rw [← hRR]; exact x1, K2.out.trans x2⟩
  by_cases k38 : kk = 3 ∨ kk = 8
  · obtain ⟨hp0, hp1⟩ := HPL.out k38
    obtain ⟨v, hv⟩ : ∃ v : Nat, e.pl = v := ⟨e.pl.toNat, by omega⟩
    have hvn : e.pl.toNat = v := by omega
    have hRR : (⟨q.T, q.V, q.S, e.th, q.clk, q.bg, q.bp, put q.xs v e.x⟩ : Cd) = R := by
      rw [← HR.out, if_neg (by omega), if_neg k1, if_neg k5, if_pos k38, hvn]
    have HV := Lib.hid hv
    have hv32 : v < 32 := by omega
    clear HR HPL hp0 hp1 hv hvn k1 k5
    rcases k38 with rfl | rfl
    · go_enter Tryd.func39, Tryd.ntmps39
      go_wp2_with fail
      rw [HW2.out]
      refine rgKn9 rfl _ (by simp) w2 gc w.heap.size v hv32 hgg.out _ e HE2.out HV.out HC2.out rfl rfl ?_
      rintro w4 ⟨x1, x2⟩
      simp only [putAll, List.setIfInBounds_toArray, List.set_cons_succ, List.set_cons_zero]
      go_wp2_with fail
      go_end0
      exact ⟨rfl, by rw [← hRR]; exact x1, K2.out.trans x2⟩
    · go_enter Tryd.func39, Tryd.ntmps39
      go_wp2_with fail
      rw [HW2.out]
      refine rgKn9 rfl _ (by simp) w2 gc w.heap.size v hv32 hgg.out _ e HE2.out HV.out HC2.out rfl rfl ?_
      rintro w4 ⟨x1, x2⟩
      simp only [putAll, List.setIfInBounds_toArray, List.set_cons_succ, List.set_cons_zero]
      go_wp2_with fail
      go_end0
      exact ⟨rfl, by rw [← hRR]; exact x1, K2.out.trans x2⟩
  have hRR : (⟨q.T, q.V, q.S, e.th, q.clk, q.bg, q.bp, q.xs⟩ : Cd) = R := by
    rw [← HR.out, if_neg (by omega), if_neg k1, if_neg k5, if_neg k38]
  have q1 : (kk == 1) = false := beq_eq_false_iff_ne.2 k1
  have q5 : (kk == 5) = false := beq_eq_false_iff_ne.2 k5
  have q3 : (kk == 3) = false := beq_eq_false_iff_ne.2 (fun h => k38 (.inl h))
  have q8 : (kk == 8) = false := beq_eq_false_iff_ne.2 (fun h => k38 (.inr h))
  clear HR HPL k1 k5 k38
  go_enter Tryd.func39, Tryd.ntmps39
  go_wp2_with fail
  go_end0
  rw [HW2.out]
  exact ⟨rfl, by rw [← hRR]; exact HC2.out, K2.out⟩
end Go.Proofs.YtkfcglgikemefaaDoor
namespace Go.Proofs.YtkfcglgikemefaaDoor
set_option maxRecDepth 100000
open Go.RowKit Go.Deep
set_option linter.unusedVariables false
section
variable {P : Program} {ops : Array Oper} {Q : Exit → Act → World → Prop}
theorem wp_region_valsK {id : Nat} (J : (Nat → Bool) → World → Prop) (vals : List Value) (ds : List Nat) (W : World) (T : Array Value) (hv : vals.length = ds.length) (hn : ds.Nodup) (hd : ∀ d ∈ ds, d < T.size) (hm : P.follows .mixedOrders = true) (hops : okV ds (List.replicate ds.length true) ops = true)
    (hguard : ∀ (i : Nat) (o : Oper) (j : Nat) (want : Bool), ops[i]? = some o → o.guard = some (j, want) → vals.getD j undef = .bool want)
    (h0 : J (fun _ => false) W.drew)
    (hstep : ∀ i o, ops[i]? = some o → i < ds.length → ∀ (don : Nat → Bool) (a : Act) (w : World), (∀ t, t ∉ ds → a.tmps[t]?.getD undef = T[t]?.getD undef) → (∀ j, j ∈ reachT ops 9 i → don j = true ∧ a.tmps[ds.getD j 0]?.getD undef = vals.getD j undef) → (∀ j, j < ds.length → don j = false → a.tmps[ds.getD j 0]?.getD undef = T[ds.getD j 0]?.getD undef) → (∀ l, l < ds.length → don l = true → ∀ j, j ∈ reachT ops 9 l → don j = true) → don i = false → J don w →
      ∀ K : Act → World → Prop, (∀ w', J (fun j => j == i || don j) w' → K (a.put o.dst (vals.getD i undef)) w') → Oper.wp P o a w K Q)
    (hend : ∀ (w : World), J (fun j => decide (j < ds.length)) w → Q .normal ⟨putAll T ds vals, []⟩ w) :
    (Code.region id ops true).wp P Q ⟨T, []⟩ W := by
  obtain ⟨hsz, hsp⟩ := okV_spec hops
  have hdon0 : donV ds.length (Array.replicate ops.size false) = fun _ => false := by
    funext j
    unfold donV
    rw [Array.getD_eq_getD_getElem?, Array.getElem?_replicate]
    split <;> simp
  refine wp_region_any hm ?_
  refine wpAny_inv (I := fun listed a w => listed.size = ops.size ∧ (∀ i o, i < ds.length → listed.getD i true = true → ops[i]? = some o → ∀ e ∈ o.after.toList, Region.binds .any e = true → listed.getD e.on true = true) ∧ ∃ us : List Value, us.length = ds.length ∧ a = ⟨putAll T ds us, []⟩ ∧ J (donV ds.length listed) w ∧ (∀ i, i < ds.length → listed.getD i true = false → us.getD i undef = T[ds.getD i 0]?.getD undef) ∧ ∀ i, i < ds.length → listed.getD i true = true → us.getD i undef = vals.getD i undef) (fun _ _ _ h => h.1) ?_ ?_ _ _ _ _ ⟨by simp, fun i o hi hl ho => ?_, ds.map fun d => T.getD d undef, by simp, by rw [putAll_id ds T hn hd], by rw [hdon0]; exact h0, fun i hi _ => ?_, fun i hi h => ?_⟩ ?_
  · rintro listed a w ⟨hs, hcl, us, hu, rfl, hJ, hZ, hS⟩ i hi
    obtain ⟨h1, h2, h3⟩ := ready_of hi
    have ho : ops[i]? = some ops[i] := Array.getElem?_eq_getElem h1
    obtain ⟨o1, o2, o4, o3⟩ := hsp i _ ho
    have hid : i < ds.length := by omega
    have hat : ∀ j, j < ds.length → (putAll T ds us)[ds.getD j 0]? = us[j]? := fun j hj => by
      rw [List.getD_eq_getElem?_getD, List.getElem?_eq_getElem hj]
      exact putAll_at T ds us j hj hu.symm hn (hd _ (List.getElem_mem hj))
    have h2' : listed.getD i true = false := h2
    have hdl : ∀ e ∈ ops[i].after.toList, Region.binds .any e = true → listed.getD e.on true = true := fun e he hbn => by
      have := h3 _ ho e he hbn
      have hlt := o3 e he hbn
      rw [Array.getD_eq_getD_getElem?, Array.getElem?_eq_getElem (by omega)] at this ⊢
      simpa using this
    have hle : ∀ j, j ∈ reachT ops 9 i → j < ds.length ∧ listed.getD j true = true := fun j hj =>
      reachT_done (D := fun j => j < ds.length ∧ listed.getD j true = true) (fun i2 o2 h h2 e he hbn => ⟨by
        have := (hsp i2 o2 h2).2.2.2 e he hbn
        have := h.1
        omega, hcl i2 o2 h.1 h.2 h2 e he hbn⟩) 9 i _ ho (fun e he hbn => ⟨by have := o3 e he hbn; omega, hdl e he hbn⟩) j hj
    have hw : Region.wanted ops[i] (yielded ops (putAll T ds us)) = true := by
      cases hg : ops[i].guard with
      | none => simp [Region.wanted, hg]
      | some x =>
        obtain ⟨j, want⟩ := x
        obtain ⟨p1, p2, e, he, hbn, hej⟩ := o4 j want hg
        have hv := hguard i _ j want ho hg
        have hj : j < ds.length := by omega
        have hq := hS j hj (by rw [← hej]; exact hdl e he hbn)
        rw [hv] at hq
        have hg2 := hat j hj
        rw [List.getElem?_eq_getElem (show j < us.length by omega)] at hg2
        rw [List.getD_eq_getElem?_getD, List.getElem?_eq_getElem (show j < us.length by omega)] at hq
        have hdj : ops[j].dst = some (ds.getD j 0) := by
          rw [(hsp j _ (Array.getElem?_eq_getElem p2)).1, List.getD_eq_getElem?_getD, List.getElem?_eq_getElem hj]
          rfl
        have hy : yielded ops (putAll T ds us) j = some want := by
          unfold yielded
          rw [Array.getElem?_eq_getElem p2]
          simp only [Option.bind_some]
          rw [hdj]
          simp only [Option.bind_some]
          rw [hg2]
          simp only [Option.getD_some] at hq
          rw [hq]
        simp [Region.wanted, hg, hy]
    have hcl2 : ∀ i2 o2, i2 < ds.length → (listed.setIfInBounds i true).getD i2 true = true → ops[i2]? = some o2 → ∀ e ∈ o2.after.toList, Region.binds .any e = true → (listed.setIfInBounds i true).getD e.on true = true := fun i2 o2 hi2 hl ho2 e he hbn => by
      rw [listed_set (by omega)] at hl ⊢
      by_cases hei : e.on = i
      · rw [if_pos hei]
      · rw [if_neg hei]
        by_cases hii : i2 = i
        · subst hii
          rw [ho] at ho2
          obtain rfl := Option.some.inj ho2
          exact hdl e he hbn
        · rw [if_neg hii] at hl
          exact hcl i2 o2 hi2 hl ho2 e he hbn
    unfold wpOp
    rw [ho]
    simp only [hw, if_true]
    refine .inl (hstep i _ ho hid (donV ds.length listed) _ w (fun t ht => by rw [putAll_far ds us T t ht]) (fun j hj => ?_) (fun j hj hdj => ?_) (fun l hl hdl2 j hj => ?_) ?_ hJ _ fun w' hJ' => ?_)
    · obtain ⟨l1, l2⟩ := hle j hj
      refine ⟨?_, ?_⟩
      · unfold donV
        rw [decide_eq_true l1, getD_both (by omega) false true, l2]
        rfl
      · show (putAll T ds us)[ds.getD j 0]?.getD undef = _
        rw [hat j l1, ← List.getD_eq_getElem?_getD]
        exact hS j l1 l2
    · have hlf : listed.getD j true = false := by
        unfold donV at hdj
        rw [decide_eq_true hj, Bool.true_and, getD_both (by omega) false true] at hdj
        exact hdj
      show (putAll T ds us)[ds.getD j 0]?.getD undef = _
      rw [hat j hj, ← List.getD_eq_getElem?_getD]
      exact hZ j hj hlf
    · have hll : listed.getD l true = true := by
        unfold donV at hdl2
        rw [decide_eq_true hl, Bool.true_and, getD_both (by omega) false true] at hdl2
        exact hdl2
      have hol : ops[l]? = some ops[l] := Array.getElem?_eq_getElem (by omega)
      obtain ⟨l1, l2⟩ := reachT_done (D := fun j => j < ds.length ∧ listed.getD j true = true) (fun i2 o2 h h2 e he hbn => ⟨by
        have := (hsp i2 o2 h2).2.2.2 e he hbn
        have := h.1
        omega, hcl i2 o2 h.1 h.2 h2 e he hbn⟩) 9 l _ hol (fun e he hbn => ⟨by
        have := (hsp l _ hol).2.2.2 e he hbn
        omega, hcl l _ hl hll hol e he hbn⟩) j hj
      unfold donV
      rw [decide_eq_true l1, getD_both (by omega) false true, l2]
      rfl
    · unfold donV
      rw [getD_both (by omega) false true, h2', Bool.and_false]
    · refine ⟨by simpa using hs, hcl2, us.set i (vals.getD i undef), by simpa using hu, ?_, ?_, fun j hj hl => ?_, fun j hj hl => ?_⟩
      · rw [putAll_set ds us T i _ hid hu.symm hn, o1, List.getElem?_eq_getElem hid]
        rfl
      · rw [donV_set hid (by omega)]
        exact hJ'
      · have hji : j ≠ i := by
          rintro rfl
          rw [listed_set (by omega), if_pos rfl] at hl
          cases hl
        rw [List.getD_eq_getElem?_getD, List.getElem?_set_ne (by omega), ← List.getD_eq_getElem?_getD]
        rw [listed_set (by omega), if_neg hji] at hl
        exact hZ j hj hl
      · by_cases hji : j = i
        · subst hji
          rw [List.getD_eq_getElem?_getD, List.getElem?_set_self (by omega)]
          rfl
        · rw [List.getD_eq_getElem?_getD, List.getElem?_set_ne (by omega), ← List.getD_eq_getElem?_getD]
          rw [listed_set (by omega), if_neg hji] at hl
          exact hS j hj hl
  · rintro listed a w ⟨hs, hcl, us, hu, rfl, hJ, hZ, hS⟩ hr
    have hall := ready_some (fun i o ho => (hsp i o ho).2.2.2) hr hs
    have hd2 : donV ds.length listed = fun j => decide (j < ds.length) := by
      funext j
      unfold donV
      by_cases hj : j < ds.length
      · rw [getD_both (by omega) false true, hall j (by omega), Bool.and_true]
      · rw [decide_eq_false hj, Bool.false_and]
    rw [hd2] at hJ
    have huv : us = vals := by
      apply List.ext_getElem? 
      intro i
      by_cases hi : i < ds.length
      · have := hS i hi (hall i (by omega))
        rw [List.getD_eq_getElem?_getD, List.getD_eq_getElem?_getD, List.getElem?_eq_getElem (by omega : i < us.length), List.getElem?_eq_getElem (by omega : i < vals.length)] at this
        rw [List.getElem?_eq_getElem (by omega : i < us.length), List.getElem?_eq_getElem (by omega : i < vals.length)]
        exact congrArg some this
      · rw [List.getElem?_eq_none (by omega), List.getElem?_eq_none (by omega)]
    rw [huv]
    exact hend w hJ
  · rw [Array.getD_eq_getD_getElem?, Array.getElem?_replicate, if_pos (by omega)] at hl
    cases hl
  · rw [List.getD_eq_getElem?_getD, List.getElem?_map, List.getD_eq_getElem?_getD, List.getElem?_eq_getElem hi]
    simp [Array.getD_eq_getD_getElem?]
  · rw [Array.getD_eq_getD_getElem?, Array.getElem?_replicate, if_pos (by omega)] at h
    cases h
  · have hle : ∀ (p : Nat → Bool) n, cntR p n ≤ n := fun p n => by
      induction n with
      | zero => exact Nat.le_refl _
      | succ n ih => rw [cntR]; split <;> omega
    exact hle _ _
end
end Go.Proofs.YtkfcglgikemefaaDoor
namespace Go.Proofs.YtkfcglgikemefaaDoor
set_option maxRecDepth 100000
open Go.RowKit Go.Deep
set_option linter.unusedVariables false
set_option linter.unusedSimpArgs false
section
variable {a : Act} {w : World} {K : Act → World → Prop} {Q : Exit → Act → World → Prop} {o : Oper}
theorem u_conv (x : Nat) {n : Int} (hb : 0 ≤ n ∧ n ≤ 255) (ho : o.op = .convert 5 3 (.tmp x)) (hx : a.tmps[x]?.getD undef = .int .u8 n) (hK : K (a.put o.dst (.int .i64 n)) w) : Oper.wp Tryd.prog o a w K Q := by
  obtain ⟨dst, op, type, pos, after, guard⟩ := o
  have ho' : op = _ := ho
  subst ho'
  clear ho
  obtain ⟨b1, b2⟩ := hb
  have hw : IntKind.i64.wrap n = n := IntWalk.i64_in _ ⟨by omega, by omega⟩
  go_simp
  exact hK
theorem u_mul_i (x y : Nat) {n m : Int} (ho : o.op = .binOp .mul 3 (.tmp x) (.tmp y) 3) (hx : a.tmps[x]?.getD undef = .int .i64 n) (hy : a.tmps[y]?.getD undef = .int .i64 m) (hb : -9223372036854775808 ≤ n * m ∧ n * m ≤ 9223372036854775807) (hK : K (a.put o.dst (.int .i64 (n * m))) w) : Oper.wp Tryd.prog o a w K Q := by
  obtain ⟨dst, op, type, pos, after, guard⟩ := o
  have ho' : op = _ := ho
  subst ho'
  clear ho
  obtain ⟨b1, b2⟩ := hb
  have hw : IntKind.i64.wrap (n * m) = n * m := IntWalk.i64_in _ ⟨b1, b2⟩
  go_simp
  exact hK
theorem u_rem_i (x y : Nat) {n m : Int} (ho : o.op = .binOp .rem 3 (.tmp x) (.tmp y) 3) (hx : a.tmps[x]?.getD undef = .int .i64 n) (hy : a.tmps[y]?.getD undef = .int .i64 m) (hb : 1 ≤ m ∧ 0 ≤ n ∧ n ≤ 9223372036854775807) (hK : K (a.put o.dst (.int .i64 (n.tmod m))) w) : Oper.wp Tryd.prog o a w K Q := by
  obtain ⟨dst, op, type, pos, after, guard⟩ := o
  have ho' : op = _ := ho
  subst ho'
  clear ho
  obtain ⟨b1, b2, b3⟩ := hb
  have h0 : (m == 0) = false := beq_eq_false_iff_ne.2 (by omega)
  have h00 : m ≠ 0 := by omega
  have h1 : n.tmod m = n % m := Int.tmod_eq_emod_of_nonneg b2
  have h2 := Int.emod_nonneg n h00
  have h3 : n % m < m := Int.emod_lt_of_pos n (by omega)
  have h4 : n % m ≤ n := by have h5 := Int.emod_add_mul_ediv n m; have h6 : 0 ≤ n / m := Int.ediv_nonneg b2 (by omega); have h7 : 0 ≤ m * (n / m) := Int.mul_nonneg (by omega) h6; omega
  have hw : IntKind.i64.wrap (n.tmod m) = n.tmod m := IntWalk.i64_in _ ⟨by omega, by omega⟩
  clear h1 h4
  go_simp
  exact hK
theorem u_sub_2 (x y : Nat) {n m : Int} (ho : o.op = .binOp .sub 2 (.tmp x) (.tmp y) 2) (hx : a.tmps[x]?.getD undef = .int .i64 n) (hy : a.tmps[y]?.getD undef = .int .i64 m) (hb : True) (hK : K (a.put o.dst (.int .i64 (i64w (n - m)))) w) : Oper.wp Tryd.prog o a w K Q := by
  obtain ⟨dst, op, type, pos, after, guard⟩ := o
  have ho' : op = _ := ho
  subst ho'
  clear ho
  unfold i64w at hK
  go_simp
  exact hK
end
theorem bs_app (a b : List UInt8) : bs a ++ bs b = bs (a ++ b) := by rw [bs_add, bs_bytes]
theorem put_sz (n : Nat) : (bs (Vm.put n)).size ≤ 10 := by rw [bs_size]; exact put10 n

noncomputable def rgBy1_ops : Array Oper := opsW Tryd.f38 1
set_option maxRecDepth 100000 in
set_option maxHeartbeats 4000000 in
theorem rgBy1 {id : Nat} {ops : Array Oper} (hops : ops = rgBy1_ops) (T0 : Array Value) (hsz : 34 ≤ T0.size) (W : World) (gc ge : Nat) (q : Cd) (e : Ev) (he : EvO W ge e) (hcd : RCod W gc q) (hk : 0 ≤ e.kd ∧ e.kd ≤ 255) (g1 : -9223372036854775808 ≤ (e.kd - 1) * q.T ∧ (e.kd - 1) * q.T ≤ 9223372036854775807) (g2 : -9223372036854775808 ≤ e.th - q.last ∧ e.th - q.last ≤ 9223372036854775807) (g3 : 0 ≤ e.th - q.last + q.T ∧ e.th - q.last + q.T ≤ 9223372036854775807) (g4 : 1 ≤ q.T) (g5 : 0 ≤ whoN q e ∧ whoN q e ≤ 9223372036854775807) (h0 : T0[0]? = some (.pointer (some ⟨gc, 0, none⟩))) (h3 : T0[3]? = some (.pointer (some ⟨ge, 0, none⟩))) {Q : Exit → Act → World → Prop}
    (hend : ∀ w : World, Below W.heap.size W w → Q .normal ⟨putAll T0 [6, 7, 8, 9, 10, 11, 12, 13, 14, 15, 16, 17, 18, 19, 20, 21, 22, 23, 24, 25, 26, 27, 28, 29, 30, 31, 32, 33, 5] [.pointer (some ⟨ge, 0, none⟩), .int .u8 e.kd, .int .i64 e.kd, .int .i64 (e.kd - 1), .pointer (some ⟨gc, 0, none⟩), .pointer (some ⟨gc, 0, none⟩), .pointer (some ⟨gc, 0, none⟩), .int .i64 q.T, .int .i64 ((e.kd - 1) * q.T), .pointer (some ⟨ge, 1, none⟩), .int .i64 e.th, .pointer (some ⟨gc, 0, none⟩), .pointer (some ⟨gc, 0, none⟩), .pointer (some ⟨gc, 3, none⟩), .int .i64 q.last, .int .i64 (e.th - q.last), .pointer (some ⟨gc, 0, none⟩), .pointer (some ⟨gc, 0, none⟩), .pointer (some ⟨gc, 0, none⟩), .int .i64 q.T, .int .i64 (e.th - q.last + q.T), .pointer (some ⟨gc, 0, none⟩), .pointer (some ⟨gc, 0, none⟩), .pointer (some ⟨gc, 0, none⟩), .int .i64 q.T, .int .i64 ((e.th - q.last + q.T).tmod q.T), .int .i64 ((e.kd - 1) * q.T + (e.th - q.last + q.T).tmod q.T), .string (bs (Vm.put (whoN q e).toNat)), .string (bs (Vm.put (whoN q e).toNat))], []⟩ w) : (Code.region id ops true).wp Tryd.prog Q ⟨T0, []⟩ W := by
  subst hops
  have hos : rgBy1_ops.size = 29 := by kernel_rfl
  have hga : (List.range 29).all (fun i => match rgBy1_ops[i]? with | some o => o.guard == none | none => false) = true := by kernel_rfl
  have hlast : ∀ i, i < 28 → (reachT rgBy1_ops 9 28).contains i = true := by
    have hb : ((List.range 28).all fun i => (reachT rgBy1_ops 9 28).contains i) = true := by kernel_rfl
    exact fun i hi => List.all_eq_true.1 hb i (by simpa using hi)
  refine wp_region_valsK (fun don w => Below W.heap.size W w) [.pointer (some ⟨ge, 0, none⟩), .int .u8 e.kd, .int .i64 e.kd, .int .i64 (e.kd - 1), .pointer (some ⟨gc, 0, none⟩), .pointer (some ⟨gc, 0, none⟩), .pointer (some ⟨gc, 0, none⟩), .int .i64 q.T, .int .i64 ((e.kd - 1) * q.T), .pointer (some ⟨ge, 1, none⟩), .int .i64 e.th, .pointer (some ⟨gc, 0, none⟩), .pointer (some ⟨gc, 0, none⟩), .pointer (some ⟨gc, 3, none⟩), .int .i64 q.last, .int .i64 (e.th - q.last), .pointer (some ⟨gc, 0, none⟩), .pointer (some ⟨gc, 0, none⟩), .pointer (some ⟨gc, 0, none⟩), .int .i64 q.T, .int .i64 (e.th - q.last + q.T), .pointer (some ⟨gc, 0, none⟩), .pointer (some ⟨gc, 0, none⟩), .pointer (some ⟨gc, 0, none⟩), .int .i64 q.T, .int .i64 ((e.th - q.last + q.T).tmod q.T), .int .i64 ((e.kd - 1) * q.T + (e.th - q.last + q.T).tmod q.T), .string (bs (Vm.put (whoN q e).toNat)), .string (bs (Vm.put (whoN q e).toNat))] [6, 7, 8, 9, 10, 11, 12, 13, 14, 15, 16, 17, 18, 19, 20, 21, 22, 23, 24, 25, 26, 27, 28, 29, 30, 31, 32, 33, 5] W T0 rfl (by decide) (fun x hx => ?_) (by kernel_rfl) (by kernel_rfl) (fun i o j want ho hg => ?_) ((Below.refl _ _).drew) ?_ (fun w hM => hend w hM)
  · have hall : (([6, 7, 8, 9, 10, 11, 12, 13, 14, 15, 16, 17, 18, 19, 20, 21, 22, 23, 24, 25, 26, 27, 28, 29, 30, 31, 32, 33, 5] : List Nat).all fun d => decide (d < 34)) = true := by decide
    have := List.all_eq_true.1 hall x hx
    simp only [decide_eq_true_eq] at this
    omega
  · have hi : i < 29 := by rw [← hos]; exact (Array.getElem?_eq_some_iff.1 ho).1
    have h1 := List.all_eq_true.1 hga i (by simpa using hi)
    rw [ho] at h1
    simp only [hg, beq_iff_eq] at h1
    cases h1
  · intro i oo ho hi don a w hT hR hN hC hdi hM K hK
    have hU : ∀ l, (reachT rgBy1_ops 9 i).contains l = true → don l = true ∧ ∀ tt, ([6, 7, 8, 9, 10, 11, 12, 13, 14, 15, 16, 17, 18, 19, 20, 21, 22, 23, 24, 25, 26, 27, 28, 29, 30, 31, 32, 33, 5] : List Nat)[l]? = some tt → a.tmps[tt]?.getD undef = ([.pointer (some ⟨ge, 0, none⟩), .int .u8 e.kd, .int .i64 e.kd, .int .i64 (e.kd - 1), .pointer (some ⟨gc, 0, none⟩), .pointer (some ⟨gc, 0, none⟩), .pointer (some ⟨gc, 0, none⟩), .int .i64 q.T, .int .i64 ((e.kd - 1) * q.T), .pointer (some ⟨ge, 1, none⟩), .int .i64 e.th, .pointer (some ⟨gc, 0, none⟩), .pointer (some ⟨gc, 0, none⟩), .pointer (some ⟨gc, 3, none⟩), .int .i64 q.last, .int .i64 (e.th - q.last), .pointer (some ⟨gc, 0, none⟩), .pointer (some ⟨gc, 0, none⟩), .pointer (some ⟨gc, 0, none⟩), .int .i64 q.T, .int .i64 (e.th - q.last + q.T), .pointer (some ⟨gc, 0, none⟩), .pointer (some ⟨gc, 0, none⟩), .pointer (some ⟨gc, 0, none⟩), .int .i64 q.T, .int .i64 ((e.th - q.last + q.T).tmod q.T), .int .i64 ((e.kd - 1) * q.T + (e.th - q.last + q.T).tmod q.T), .string (bs (Vm.put (whoN q e).toNat)), .string (bs (Vm.put (whoN q e).toNat))] : List Value).getD l undef := fun l hl => by
      obtain ⟨r1, r2⟩ := hR l (by simpa using hl)
      exact ⟨r1, fun tt htt => by rw [List.getD_eq_getElem?_getD, htt] at r2; exact r2⟩
    have hd5 : don 28 = false := by
      by_cases hie : i = 28
      · rw [← hie]; exact hdi
      · cases hq : don 28 with
        | false => rfl
        | true => exact absurd (hC 28 (by decide) hq i (by simpa using hlast i (by have : i < 29 := hi; omega))) (by rw [hdi]; decide)
    have hT0 : ∀ tt vv, tt ∉ ([6, 7, 8, 9, 10, 11, 12, 13, 14, 15, 16, 17, 18, 19, 20, 21, 22, 23, 24, 25, 26, 27, 28, 29, 30, 31, 32, 33] : List Nat) → T0[tt]? = some vv → a.tmps[tt]?.getD undef = vv := fun tt vv htt hvv => by
      by_cases h5 : tt = 5
      · subst h5
        have := hN 28 (by decide) hd5
        exact this.trans (by show T0[5]?.getD undef = vv; rw [hvv]; rfl)
      · rw [hT tt (fun hm => by simp only [List.mem_cons, List.not_mem_nil, or_false] at hm htt; omega), hvv]; rfl
    match i, hi with
    | 0, _ => exact u_f41_0 3 (opAtW ho (by kernel_rfl)) (hT0 3 _ (by decide) h3) (hK w hM)
    | 1, _ => exact u_loadu 6 (opAtW ho (by kernel_rfl)) ((hU 0 (by kernel_rfl)).2 6 rfl) ((he.below hM).c0) (hK w hM)
    | 2, _ =>
      have x7 : a.tmps[7]?.getD undef = .int .u8 e.kd := ((hU 1 (by kernel_rfl)).2 7 rfl)
      exact u_conv 7 hk (opAtW ho (by kernel_rfl)) x7 (hK w hM)
    | 3, _ => exact u_sub_ic 8 (opAtW ho (by kernel_rfl)) ((hU 2 (by kernel_rfl)).2 8 rfl) (by omega) (hK w hM)
    | 4, _ => exact v_move 0 (opAtW ho (by kernel_rfl)) (hT0 0 _ (by decide) h0) (hK w hM)
    | 5, _ => exact u_nil 10 (opAtW ho (by kernel_rfl)) ((hU 4 (by kernel_rfl)).2 10 rfl) (hK w hM)
    | 6, _ => exact u_f81_0 11 (opAtW ho (by kernel_rfl)) ((hU 5 (by kernel_rfl)).2 11 rfl) (hK w hM)
    | 7, _ => exact u_loadi 12 (opAtW ho (by kernel_rfl)) ((hU 6 (by kernel_rfl)).2 12 rfl) ((hcd.below hM).cT) (hK w hM)
    | 8, _ => exact u_mul_i 9 13 (opAtW ho (by kernel_rfl)) ((hU 3 (by kernel_rfl)).2 9 rfl) ((hU 7 (by kernel_rfl)).2 13 rfl) (g1) (hK w hM)
    | 9, _ => exact u_f41_1 3 (opAtW ho (by kernel_rfl)) (hT0 3 _ (by decide) h3) (hK w hM)
    | 10, _ => exact u_loadi 15 (opAtW ho (by kernel_rfl)) ((hU 9 (by kernel_rfl)).2 15 rfl) ((he.below hM).c1) (hK w hM)
    | 11, _ => exact v_move 0 (opAtW ho (by kernel_rfl)) (hT0 0 _ (by decide) h0) (hK w hM)
    | 12, _ => exact u_nil 17 (opAtW ho (by kernel_rfl)) ((hU 11 (by kernel_rfl)).2 17 rfl) (hK w hM)
    | 13, _ => exact u_f81_3 18 (opAtW ho (by kernel_rfl)) ((hU 12 (by kernel_rfl)).2 18 rfl) (hK w hM)
    | 14, _ => exact u_loadi 19 (opAtW ho (by kernel_rfl)) ((hU 13 (by kernel_rfl)).2 19 rfl) ((hcd.below hM).cl) (hK w hM)
    | 15, _ => exact u_sub_i 16 20 (opAtW ho (by kernel_rfl)) ((hU 10 (by kernel_rfl)).2 16 rfl) ((hU 14 (by kernel_rfl)).2 20 rfl) (g2) (hK w hM)
    | 16, _ => exact v_move 0 (opAtW ho (by kernel_rfl)) (hT0 0 _ (by decide) h0) (hK w hM)
    | 17, _ => exact u_nil 22 (opAtW ho (by kernel_rfl)) ((hU 16 (by kernel_rfl)).2 22 rfl) (hK w hM)
    | 18, _ => exact u_f81_0 23 (opAtW ho (by kernel_rfl)) ((hU 17 (by kernel_rfl)).2 23 rfl) (hK w hM)
    | 19, _ => exact u_loadi 24 (opAtW ho (by kernel_rfl)) ((hU 18 (by kernel_rfl)).2 24 rfl) ((hcd.below hM).cT) (hK w hM)
    | 20, _ => exact u_add_i 21 25 (opAtW ho (by kernel_rfl)) ((hU 15 (by kernel_rfl)).2 21 rfl) ((hU 19 (by kernel_rfl)).2 25 rfl) (by omega) (hK w hM)
    | 21, _ => exact v_move 0 (opAtW ho (by kernel_rfl)) (hT0 0 _ (by decide) h0) (hK w hM)
    | 22, _ => exact u_nil 27 (opAtW ho (by kernel_rfl)) ((hU 21 (by kernel_rfl)).2 27 rfl) (hK w hM)
    | 23, _ => exact u_f81_0 28 (opAtW ho (by kernel_rfl)) ((hU 22 (by kernel_rfl)).2 28 rfl) (hK w hM)
    | 24, _ => exact u_loadi 29 (opAtW ho (by kernel_rfl)) ((hU 23 (by kernel_rfl)).2 29 rfl) ((hcd.below hM).cT) (hK w hM)
    | 25, _ => exact u_rem_i 26 30 (opAtW ho (by kernel_rfl)) ((hU 20 (by kernel_rfl)).2 26 rfl) ((hU 24 (by kernel_rfl)).2 30 rfl) (⟨g4, g3.1, g3.2⟩) (hK w hM)
    | 26, _ => exact u_add_i 14 31 (opAtW ho (by kernel_rfl)) ((hU 8 (by kernel_rfl)).2 14 rfl) ((hU 25 (by kernel_rfl)).2 31 rfl) (by rw [show (e.kd - 1) * q.T + (e.th - q.last + q.T).tmod q.T = whoN q e from rfl]; omega) (hK w hM)
    | 27, _ =>
      have x32 : a.tmps[32]?.getD undef = .int .i64 ((e.kd - 1) * q.T + (e.th - q.last + q.T).tmod q.T) := ((hU 26 (by kernel_rfl)).2 32 rfl)
      obtain ⟨dst, op, type, pos, after, guard⟩ := oo
      have ho' : op = .call { callee := .value (.func 67), args := #[.tmp 32], argTypes := #[3] } := opAtW ho (by kernel_rfl)
      subst ho'
      clear ho hT hU hT0
      have hfun := Tryd.func67
      go_simp
      refine (rnum_any (whoN q e) (g5).1 (g5).2 w).mono ?_
      rintro _ w' ⟨rfl, h1⟩
      exact hK w' (hM.trans (h1.mono hM.size))
    | 28, _ => exact v_assign 33 (opAtW ho (by kernel_rfl)) ((hU 27 (by kernel_rfl)).2 33 rfl) (hK w hM)
    | i + 29, h => exact absurd (show i + 29 < 29 from h) (by omega)

noncomputable def rgBy4_ops : Array Oper := opsW Tryd.f38 4
set_option maxRecDepth 100000 in
set_option maxHeartbeats 4000000 in
theorem rgBy4 {id : Nat} {ops : Array Oper} (hops : ops = rgBy4_ops) (T0 : Array Value) (hsz : 52 ≤ T0.size) (W : World) (gc ge : Nat) (q : Cd) (e : Ev) (he : EvO W ge e) (hcd : RCod W gc q) (s : ByteArray) (hs : s.size ≤ 100) (g1 : 0 ≤ e.tx ∧ e.tx ≤ 9223372036854775807) (g2 : 0 ≤ e.v - q.clk ∧ e.v - q.clk ≤ 9223372036854775807) (h0 : T0[0]? = some (.pointer (some ⟨gc, 0, none⟩))) (h3 : T0[3]? = some (.pointer (some ⟨ge, 0, none⟩))) (h5 : T0[5]? = some (.string s)) {Q : Exit → Act → World → Prop}
    (hend : ∀ w : World, Below W.heap.size W w → Q .normal ⟨putAll T0 [38, 39, 40, 41, 42, 43, 44, 45, 46, 47, 48, 49, 50, 51, 5] [.string s, .pointer (some ⟨ge, 2, none⟩), .int .i64 e.tx, .string (bs (Vm.put (e.tx).toNat)), .string (s ++ bs (Vm.put (e.tx).toNat)), .pointer (some ⟨ge, 4, none⟩), .int .i64 e.v, .pointer (some ⟨gc, 0, none⟩), .pointer (some ⟨gc, 0, none⟩), .pointer (some ⟨gc, 4, none⟩), .int .i64 q.clk, .int .i64 (e.v - q.clk), .string (bs (Vm.put (e.v - q.clk).toNat)), .string (s ++ bs (Vm.put (e.tx).toNat) ++ bs (Vm.put (e.v - q.clk).toNat)), .string (s ++ bs (Vm.put (e.tx).toNat) ++ bs (Vm.put (e.v - q.clk).toNat))], []⟩ w) : (Code.region id ops true).wp Tryd.prog Q ⟨T0, []⟩ W := by
  subst hops
  have hos : rgBy4_ops.size = 15 := by kernel_rfl
  have hga : (List.range 15).all (fun i => match rgBy4_ops[i]? with | some o => o.guard == none | none => false) = true := by kernel_rfl
  have hlast : ∀ i, i < 14 → (reachT rgBy4_ops 9 14).contains i = true := by
    have hb : ((List.range 14).all fun i => (reachT rgBy4_ops 9 14).contains i) = true := by kernel_rfl
    exact fun i hi => List.all_eq_true.1 hb i (by simpa using hi)
  refine wp_region_valsK (fun don w => Below W.heap.size W w) [.string s, .pointer (some ⟨ge, 2, none⟩), .int .i64 e.tx, .string (bs (Vm.put (e.tx).toNat)), .string (s ++ bs (Vm.put (e.tx).toNat)), .pointer (some ⟨ge, 4, none⟩), .int .i64 e.v, .pointer (some ⟨gc, 0, none⟩), .pointer (some ⟨gc, 0, none⟩), .pointer (some ⟨gc, 4, none⟩), .int .i64 q.clk, .int .i64 (e.v - q.clk), .string (bs (Vm.put (e.v - q.clk).toNat)), .string (s ++ bs (Vm.put (e.tx).toNat) ++ bs (Vm.put (e.v - q.clk).toNat)), .string (s ++ bs (Vm.put (e.tx).toNat) ++ bs (Vm.put (e.v - q.clk).toNat))] [38, 39, 40, 41, 42, 43, 44, 45, 46, 47, 48, 49, 50, 51, 5] W T0 rfl (by decide) (fun x hx => ?_) (by kernel_rfl) (by kernel_rfl) (fun i o j want ho hg => ?_) ((Below.refl _ _).drew) ?_ (fun w hM => hend w hM)
  · have hall : (([38, 39, 40, 41, 42, 43, 44, 45, 46, 47, 48, 49, 50, 51, 5] : List Nat).all fun d => decide (d < 52)) = true := by decide
    have := List.all_eq_true.1 hall x hx
    simp only [decide_eq_true_eq] at this
    omega
  · have hi : i < 15 := by rw [← hos]; exact (Array.getElem?_eq_some_iff.1 ho).1
    have h1 := List.all_eq_true.1 hga i (by simpa using hi)
    rw [ho] at h1
    simp only [hg, beq_iff_eq] at h1
    cases h1
  · intro i oo ho hi don a w hT hR hN hC hdi hM K hK
    have hU : ∀ l, (reachT rgBy4_ops 9 i).contains l = true → don l = true ∧ ∀ tt, ([38, 39, 40, 41, 42, 43, 44, 45, 46, 47, 48, 49, 50, 51, 5] : List Nat)[l]? = some tt → a.tmps[tt]?.getD undef = ([.string s, .pointer (some ⟨ge, 2, none⟩), .int .i64 e.tx, .string (bs (Vm.put (e.tx).toNat)), .string (s ++ bs (Vm.put (e.tx).toNat)), .pointer (some ⟨ge, 4, none⟩), .int .i64 e.v, .pointer (some ⟨gc, 0, none⟩), .pointer (some ⟨gc, 0, none⟩), .pointer (some ⟨gc, 4, none⟩), .int .i64 q.clk, .int .i64 (e.v - q.clk), .string (bs (Vm.put (e.v - q.clk).toNat)), .string (s ++ bs (Vm.put (e.tx).toNat) ++ bs (Vm.put (e.v - q.clk).toNat)), .string (s ++ bs (Vm.put (e.tx).toNat) ++ bs (Vm.put (e.v - q.clk).toNat))] : List Value).getD l undef := fun l hl => by
      obtain ⟨r1, r2⟩ := hR l (by simpa using hl)
      exact ⟨r1, fun tt htt => by rw [List.getD_eq_getElem?_getD, htt] at r2; exact r2⟩
    have hd5 : don 14 = false := by
      by_cases hie : i = 14
      · rw [← hie]; exact hdi
      · cases hq : don 14 with
        | false => rfl
        | true => exact absurd (hC 14 (by decide) hq i (by simpa using hlast i (by have : i < 15 := hi; omega))) (by rw [hdi]; decide)
    have hT0 : ∀ tt vv, tt ∉ ([38, 39, 40, 41, 42, 43, 44, 45, 46, 47, 48, 49, 50, 51] : List Nat) → T0[tt]? = some vv → a.tmps[tt]?.getD undef = vv := fun tt vv htt hvv => by
      by_cases h5 : tt = 5
      · subst h5
        have := hN 14 (by decide) hd5
        exact this.trans (by show T0[5]?.getD undef = vv; rw [hvv]; rfl)
      · rw [hT tt (fun hm => by simp only [List.mem_cons, List.not_mem_nil, or_false] at hm htt; omega), hvv]; rfl
    match i, hi with
    | 0, _ => exact v_move 5 (opAtW ho (by kernel_rfl)) (hT0 5 _ (by decide) h5) (hK w hM)
    | 1, _ => exact u_f41_2 3 (opAtW ho (by kernel_rfl)) (hT0 3 _ (by decide) h3) (hK w hM)
    | 2, _ => exact u_loadi 39 (opAtW ho (by kernel_rfl)) ((hU 1 (by kernel_rfl)).2 39 rfl) ((he.below hM).c2) (hK w hM)
    | 3, _ =>
      have x40 : a.tmps[40]?.getD undef = .int .i64 e.tx := ((hU 2 (by kernel_rfl)).2 40 rfl)
      obtain ⟨dst, op, type, pos, after, guard⟩ := oo
      have ho' : op = .call { callee := .value (.func 67), args := #[.tmp 40], argTypes := #[3] } := opAtW ho (by kernel_rfl)
      subst ho'
      clear ho hT hU hT0
      have hfun := Tryd.func67
      go_simp
      refine (rnum_any (e.tx) (g1).1 (g1).2 w).mono ?_
      rintro _ w' ⟨rfl, h1⟩
      exact hK w' (hM.trans (h1.mono hM.size))
    | 4, _ => exact u_add_9 38 41 (opAtW ho (by kernel_rfl)) ((hU 0 (by kernel_rfl)).2 38 rfl) ((hU 3 (by kernel_rfl)).2 41 rfl) (⟨by omega, by have := put_sz (e.tx).toNat; omega⟩) (hK w hM)
    | 5, _ => exact u_f41_4 3 (opAtW ho (by kernel_rfl)) (hT0 3 _ (by decide) h3) (hK w hM)
    | 6, _ => exact u_loadi 43 (opAtW ho (by kernel_rfl)) ((hU 5 (by kernel_rfl)).2 43 rfl) ((he.below hM).c4) (hK w hM)
    | 7, _ => exact v_move 0 (opAtW ho (by kernel_rfl)) (hT0 0 _ (by decide) h0) (hK w hM)
    | 8, _ => exact u_nil 45 (opAtW ho (by kernel_rfl)) ((hU 7 (by kernel_rfl)).2 45 rfl) (hK w hM)
    | 9, _ => exact u_f81_4 46 (opAtW ho (by kernel_rfl)) ((hU 8 (by kernel_rfl)).2 46 rfl) (hK w hM)
    | 10, _ => exact u_loadi 47 (opAtW ho (by kernel_rfl)) ((hU 9 (by kernel_rfl)).2 47 rfl) ((hcd.below hM).cc) (hK w hM)
    | 11, _ => exact u_sub_i 44 48 (opAtW ho (by kernel_rfl)) ((hU 6 (by kernel_rfl)).2 44 rfl) ((hU 10 (by kernel_rfl)).2 48 rfl) (by omega) (hK w hM)
    | 12, _ =>
      have x49 : a.tmps[49]?.getD undef = .int .i64 (e.v - q.clk) := ((hU 11 (by kernel_rfl)).2 49 rfl)
      obtain ⟨dst, op, type, pos, after, guard⟩ := oo
      have ho' : op = .call { callee := .value (.func 67), args := #[.tmp 49], argTypes := #[3] } := opAtW ho (by kernel_rfl)
      subst ho'
      clear ho hT hU hT0
      have hfun := Tryd.func67
      go_simp
      refine (rnum_any (e.v - q.clk) (g2).1 (g2).2 w).mono ?_
      rintro _ w' ⟨rfl, h1⟩
      exact hK w' (hM.trans (h1.mono hM.size))
    | 13, _ => exact u_add_9 42 50 (opAtW ho (by kernel_rfl)) ((hU 4 (by kernel_rfl)).2 42 rfl) ((hU 12 (by kernel_rfl)).2 50 rfl) (⟨by have := put_sz (e.tx).toNat; rw [ByteArray.size_append]; omega, by have := put_sz (e.v - q.clk).toNat; omega⟩) (hK w hM)
    | 14, _ => exact v_assign 51 (opAtW ho (by kernel_rfl)) ((hU 13 (by kernel_rfl)).2 51 rfl) (hK w hM)
    | i + 15, h => exact absurd (show i + 15 < 15 from h) (by omega)

noncomputable def rgBy6_ops : Array Oper := opsW Tryd.f38 6
set_option maxRecDepth 100000 in
set_option maxHeartbeats 4000000 in
theorem rgBy6 {id : Nat} {ops : Array Oper} (hops : ops = rgBy6_ops) (T0 : Array Value) (hsz : 71 ≤ T0.size) (W : World) (gc ge t : Nat) (ht : t < 6) (q : Cd) (e : Ev) (he : EvO W ge e) (hth : e.th = (t : Int)) (hcd : RCod W gc q) (s : ByteArray) (hs : s.size ≤ 100) (g1 : 0 ≤ e.pl ∧ e.pl ≤ 9223372036854775807) (g2 : 0 ≤ q.bg t - e.v ∧ q.bg t - e.v ≤ 9223372036854775807) (h0 : T0[0]? = some (.pointer (some ⟨gc, 0, none⟩))) (h3 : T0[3]? = some (.pointer (some ⟨ge, 0, none⟩))) (h5 : T0[5]? = some (.string s)) {Q : Exit → Act → World → Prop}
    (hend : ∀ w : World, Below W.heap.size W w → Q .normal ⟨putAll T0 [54, 55, 56, 57, 58, 59, 60, 61, 62, 63, 64, 65, 66, 67, 68, 69, 70, 5] [.string s, .pointer (some ⟨ge, 3, none⟩), .int .i64 e.pl, .string (bs (Vm.put (e.pl).toNat)), .string (s ++ bs (Vm.put (e.pl).toNat)), .pointer (some ⟨gc, 0, none⟩), .pointer (some ⟨ge, 1, none⟩), .int .i64 (t : Int), .pointer (some ⟨gc, 0, none⟩), .pointer (some ⟨gc, 5, none⟩), .pointer (some ⟨gc, 5 + t, none⟩), .int .i64 (q.bg t), .pointer (some ⟨ge, 4, none⟩), .int .i64 e.v, .int .i64 (q.bg t - e.v), .string (bs (Vm.put (q.bg t - e.v).toNat)), .string (s ++ bs (Vm.put (e.pl).toNat) ++ bs (Vm.put (q.bg t - e.v).toNat)), .string (s ++ bs (Vm.put (e.pl).toNat) ++ bs (Vm.put (q.bg t - e.v).toNat))], []⟩ w) : (Code.region id ops true).wp Tryd.prog Q ⟨T0, []⟩ W := by
  subst hops
  have hos : rgBy6_ops.size = 18 := by kernel_rfl
  have hga : (List.range 18).all (fun i => match rgBy6_ops[i]? with | some o => o.guard == none | none => false) = true := by kernel_rfl
  have hlast : ∀ i, i < 17 → (reachT rgBy6_ops 9 17).contains i = true := by
    have hb : ((List.range 17).all fun i => (reachT rgBy6_ops 9 17).contains i) = true := by kernel_rfl
    exact fun i hi => List.all_eq_true.1 hb i (by simpa using hi)
  refine wp_region_valsK (fun don w => Below W.heap.size W w) [.string s, .pointer (some ⟨ge, 3, none⟩), .int .i64 e.pl, .string (bs (Vm.put (e.pl).toNat)), .string (s ++ bs (Vm.put (e.pl).toNat)), .pointer (some ⟨gc, 0, none⟩), .pointer (some ⟨ge, 1, none⟩), .int .i64 (t : Int), .pointer (some ⟨gc, 0, none⟩), .pointer (some ⟨gc, 5, none⟩), .pointer (some ⟨gc, 5 + t, none⟩), .int .i64 (q.bg t), .pointer (some ⟨ge, 4, none⟩), .int .i64 e.v, .int .i64 (q.bg t - e.v), .string (bs (Vm.put (q.bg t - e.v).toNat)), .string (s ++ bs (Vm.put (e.pl).toNat) ++ bs (Vm.put (q.bg t - e.v).toNat)), .string (s ++ bs (Vm.put (e.pl).toNat) ++ bs (Vm.put (q.bg t - e.v).toNat))] [54, 55, 56, 57, 58, 59, 60, 61, 62, 63, 64, 65, 66, 67, 68, 69, 70, 5] W T0 rfl (by decide) (fun x hx => ?_) (by kernel_rfl) (by kernel_rfl) (fun i o j want ho hg => ?_) ((Below.refl _ _).drew) ?_ (fun w hM => hend w hM)
  · have hall : (([54, 55, 56, 57, 58, 59, 60, 61, 62, 63, 64, 65, 66, 67, 68, 69, 70, 5] : List Nat).all fun d => decide (d < 71)) = true := by decide
    have := List.all_eq_true.1 hall x hx
    simp only [decide_eq_true_eq] at this
    omega
  · have hi : i < 18 := by rw [← hos]; exact (Array.getElem?_eq_some_iff.1 ho).1
    have h1 := List.all_eq_true.1 hga i (by simpa using hi)
    rw [ho] at h1
    simp only [hg, beq_iff_eq] at h1
    cases h1
  · intro i oo ho hi don a w hT hR hN hC hdi hM K hK
    have hU : ∀ l, (reachT rgBy6_ops 9 i).contains l = true → don l = true ∧ ∀ tt, ([54, 55, 56, 57, 58, 59, 60, 61, 62, 63, 64, 65, 66, 67, 68, 69, 70, 5] : List Nat)[l]? = some tt → a.tmps[tt]?.getD undef = ([.string s, .pointer (some ⟨ge, 3, none⟩), .int .i64 e.pl, .string (bs (Vm.put (e.pl).toNat)), .string (s ++ bs (Vm.put (e.pl).toNat)), .pointer (some ⟨gc, 0, none⟩), .pointer (some ⟨ge, 1, none⟩), .int .i64 (t : Int), .pointer (some ⟨gc, 0, none⟩), .pointer (some ⟨gc, 5, none⟩), .pointer (some ⟨gc, 5 + t, none⟩), .int .i64 (q.bg t), .pointer (some ⟨ge, 4, none⟩), .int .i64 e.v, .int .i64 (q.bg t - e.v), .string (bs (Vm.put (q.bg t - e.v).toNat)), .string (s ++ bs (Vm.put (e.pl).toNat) ++ bs (Vm.put (q.bg t - e.v).toNat)), .string (s ++ bs (Vm.put (e.pl).toNat) ++ bs (Vm.put (q.bg t - e.v).toNat))] : List Value).getD l undef := fun l hl => by
      obtain ⟨r1, r2⟩ := hR l (by simpa using hl)
      exact ⟨r1, fun tt htt => by rw [List.getD_eq_getElem?_getD, htt] at r2; exact r2⟩
    have hd5 : don 17 = false := by
      by_cases hie : i = 17
      · rw [← hie]; exact hdi
      · cases hq : don 17 with
        | false => rfl
        | true => exact absurd (hC 17 (by decide) hq i (by simpa using hlast i (by have : i < 18 := hi; omega))) (by rw [hdi]; decide)
    have hT0 : ∀ tt vv, tt ∉ ([54, 55, 56, 57, 58, 59, 60, 61, 62, 63, 64, 65, 66, 67, 68, 69, 70] : List Nat) → T0[tt]? = some vv → a.tmps[tt]?.getD undef = vv := fun tt vv htt hvv => by
      by_cases h5 : tt = 5
      · subst h5
        have := hN 17 (by decide) hd5
        exact this.trans (by show T0[5]?.getD undef = vv; rw [hvv]; rfl)
      · rw [hT tt (fun hm => by simp only [List.mem_cons, List.not_mem_nil, or_false] at hm htt; omega), hvv]; rfl
    match i, hi with
    | 0, _ => exact v_move 5 (opAtW ho (by kernel_rfl)) (hT0 5 _ (by decide) h5) (hK w hM)
    | 1, _ => exact u_f41_3 3 (opAtW ho (by kernel_rfl)) (hT0 3 _ (by decide) h3) (hK w hM)
    | 2, _ => exact u_loadi 55 (opAtW ho (by kernel_rfl)) ((hU 1 (by kernel_rfl)).2 55 rfl) ((he.below hM).c3) (hK w hM)
    | 3, _ =>
      have x56 : a.tmps[56]?.getD undef = .int .i64 e.pl := ((hU 2 (by kernel_rfl)).2 56 rfl)
      obtain ⟨dst, op, type, pos, after, guard⟩ := oo
      have ho' : op = .call { callee := .value (.func 67), args := #[.tmp 56], argTypes := #[3] } := opAtW ho (by kernel_rfl)
      subst ho'
      clear ho hT hU hT0
      have hfun := Tryd.func67
      go_simp
      refine (rnum_any (e.pl) (g1).1 (g1).2 w).mono ?_
      rintro _ w' ⟨rfl, h1⟩
      exact hK w' (hM.trans (h1.mono hM.size))
    | 4, _ => exact u_add_9 54 57 (opAtW ho (by kernel_rfl)) ((hU 0 (by kernel_rfl)).2 54 rfl) ((hU 3 (by kernel_rfl)).2 57 rfl) (⟨by omega, by have := put_sz (e.pl).toNat; omega⟩) (hK w hM)
    | 5, _ => exact v_move 0 (opAtW ho (by kernel_rfl)) (hT0 0 _ (by decide) h0) (hK w hM)
    | 6, _ => exact u_f41_1 3 (opAtW ho (by kernel_rfl)) (hT0 3 _ (by decide) h3) (hK w hM)
    | 7, _ => exact u_loadi 60 (opAtW ho (by kernel_rfl)) ((hU 6 (by kernel_rfl)).2 60 rfl) (by rw [← hth]; exact (he.below hM).c1) (hK w hM)
    | 8, _ => exact u_nil 59 (opAtW ho (by kernel_rfl)) ((hU 5 (by kernel_rfl)).2 59 rfl) (hK w hM)
    | 9, _ => exact u_f81_5 62 (opAtW ho (by kernel_rfl)) ((hU 8 (by kernel_rfl)).2 62 rfl) (hK w hM)
    | 10, _ => exact u_i79 63 61 (k := t) ht (opAtW ho (by kernel_rfl)) ((hU 9 (by kernel_rfl)).2 63 rfl) ((hU 7 (by kernel_rfl)).2 61 rfl) (hK w hM)
    | 11, _ => exact u_loadi 64 (opAtW ho (by kernel_rfl)) ((hU 10 (by kernel_rfl)).2 64 rfl) ((hcd.below hM).cbg ht) (hK w hM)
    | 12, _ => exact u_f41_4 3 (opAtW ho (by kernel_rfl)) (hT0 3 _ (by decide) h3) (hK w hM)
    | 13, _ => exact u_loadi 66 (opAtW ho (by kernel_rfl)) ((hU 12 (by kernel_rfl)).2 66 rfl) ((he.below hM).c4) (hK w hM)
    | 14, _ => exact u_sub_i 65 67 (opAtW ho (by kernel_rfl)) ((hU 11 (by kernel_rfl)).2 65 rfl) ((hU 13 (by kernel_rfl)).2 67 rfl) (by omega) (hK w hM)
    | 15, _ =>
      have x68 : a.tmps[68]?.getD undef = .int .i64 (q.bg t - e.v) := ((hU 14 (by kernel_rfl)).2 68 rfl)
      obtain ⟨dst, op, type, pos, after, guard⟩ := oo
      have ho' : op = .call { callee := .value (.func 67), args := #[.tmp 68], argTypes := #[3] } := opAtW ho (by kernel_rfl)
      subst ho'
      clear ho hT hU hT0
      have hfun := Tryd.func67
      go_simp
      refine (rnum_any (q.bg t - e.v) (g2).1 (g2).2 w).mono ?_
      rintro _ w' ⟨rfl, h1⟩
      exact hK w' (hM.trans (h1.mono hM.size))
    | 16, _ => exact u_add_9 58 69 (opAtW ho (by kernel_rfl)) ((hU 4 (by kernel_rfl)).2 58 rfl) ((hU 15 (by kernel_rfl)).2 69 rfl) (⟨by have := put_sz (e.pl).toNat; rw [ByteArray.size_append]; omega, by have := put_sz (q.bg t - e.v).toNat; omega⟩) (hK w hM)
    | 17, _ => exact v_assign 70 (opAtW ho (by kernel_rfl)) ((hU 16 (by kernel_rfl)).2 70 rfl) (hK w hM)
    | i + 18, h => exact absurd (show i + 18 < 18 from h) (by omega)

noncomputable def rgBy9_ops : Array Oper := opsW Tryd.f38 9
set_option maxRecDepth 100000 in
set_option maxHeartbeats 4000000 in
theorem rgBy9 {id : Nat} {ops : Array Oper} (hops : ops = rgBy9_ops) (T0 : Array Value) (hsz : 92 ≤ T0.size) (W : World) (gc ge v : Nat) (hv : v < 32) (q : Cd) (e : Ev) (he : EvO W ge e) (hpl : e.pl = (v : Int)) (hcd : RCod W gc q) (s : ByteArray) (hs : s.size ≤ 100) (hb : -9223372036854775808 ≤ i64w (e.x - q.xs v) ∧ i64w (e.x - q.xs v) ≤ 9223372036854775807) (z : Nat) (hzz : zigV (i64w (e.x - q.xs v)) = (z : Int)) (hz64 : z < 18446744073709551616) (h0 : T0[0]? = some (.pointer (some ⟨gc, 0, none⟩))) (h3 : T0[3]? = some (.pointer (some ⟨ge, 0, none⟩))) (h5 : T0[5]? = some (.string s)) {Q : Exit → Act → World → Prop}
    (hend : ∀ w : World, Below W.heap.size W w → Q .normal ⟨putAll T0 [74, 75, 76, 77, 78, 79, 80, 81, 82, 83, 84, 85, 86, 87, 88, 89, 90, 91, 5] [.string s, .pointer (some ⟨ge, 3, none⟩), .int .i64 (v : Int), .string (bs (Vm.put ((v : Int)).toNat)), .string (s ++ bs (Vm.put ((v : Int)).toNat)), .pointer (some ⟨ge, 5, none⟩), .int .i64 e.x, .pointer (some ⟨gc, 0, none⟩), .pointer (some ⟨ge, 3, none⟩), .int .i64 (v : Int), .pointer (some ⟨gc, 0, none⟩), .pointer (some ⟨gc, 17, none⟩), .pointer (some ⟨gc, 17 + v, none⟩), .int .i64 (q.xs v), .int .i64 (i64w (e.x - q.xs v)), .int .u64 (z : Int), .string (bs (Vm.put ((z : Int)).toNat)), .string (s ++ bs (Vm.put ((v : Int)).toNat) ++ bs (Vm.put ((z : Int)).toNat)), .string (s ++ bs (Vm.put ((v : Int)).toNat) ++ bs (Vm.put ((z : Int)).toNat))], []⟩ w) : (Code.region id ops true).wp Tryd.prog Q ⟨T0, []⟩ W := by
  subst hops
  have hos : rgBy9_ops.size = 19 := by kernel_rfl
  have hga : (List.range 19).all (fun i => match rgBy9_ops[i]? with | some o => o.guard == none | none => false) = true := by kernel_rfl
  have hlast : ∀ i, i < 18 → (reachT rgBy9_ops 9 18).contains i = true := by
    have hb : ((List.range 18).all fun i => (reachT rgBy9_ops 9 18).contains i) = true := by kernel_rfl
    exact fun i hi => List.all_eq_true.1 hb i (by simpa using hi)
  refine wp_region_valsK (fun don w => Below W.heap.size W w) [.string s, .pointer (some ⟨ge, 3, none⟩), .int .i64 (v : Int), .string (bs (Vm.put ((v : Int)).toNat)), .string (s ++ bs (Vm.put ((v : Int)).toNat)), .pointer (some ⟨ge, 5, none⟩), .int .i64 e.x, .pointer (some ⟨gc, 0, none⟩), .pointer (some ⟨ge, 3, none⟩), .int .i64 (v : Int), .pointer (some ⟨gc, 0, none⟩), .pointer (some ⟨gc, 17, none⟩), .pointer (some ⟨gc, 17 + v, none⟩), .int .i64 (q.xs v), .int .i64 (i64w (e.x - q.xs v)), .int .u64 (z : Int), .string (bs (Vm.put ((z : Int)).toNat)), .string (s ++ bs (Vm.put ((v : Int)).toNat) ++ bs (Vm.put ((z : Int)).toNat)), .string (s ++ bs (Vm.put ((v : Int)).toNat) ++ bs (Vm.put ((z : Int)).toNat))] [74, 75, 76, 77, 78, 79, 80, 81, 82, 83, 84, 85, 86, 87, 88, 89, 90, 91, 5] W T0 rfl (by decide) (fun x hx => ?_) (by kernel_rfl) (by kernel_rfl) (fun i o j want ho hg => ?_) ((Below.refl _ _).drew) ?_ (fun w hM => hend w hM)
  · have hall : (([74, 75, 76, 77, 78, 79, 80, 81, 82, 83, 84, 85, 86, 87, 88, 89, 90, 91, 5] : List Nat).all fun d => decide (d < 92)) = true := by decide
    have := List.all_eq_true.1 hall x hx
    simp only [decide_eq_true_eq] at this
    omega
  · have hi : i < 19 := by rw [← hos]; exact (Array.getElem?_eq_some_iff.1 ho).1
    have h1 := List.all_eq_true.1 hga i (by simpa using hi)
    rw [ho] at h1
    simp only [hg, beq_iff_eq] at h1
    cases h1
  · intro i oo ho hi don a w hT hR hN hC hdi hM K hK
    have hU : ∀ l, (reachT rgBy9_ops 9 i).contains l = true → don l = true ∧ ∀ tt, ([74, 75, 76, 77, 78, 79, 80, 81, 82, 83, 84, 85, 86, 87, 88, 89, 90, 91, 5] : List Nat)[l]? = some tt → a.tmps[tt]?.getD undef = ([.string s, .pointer (some ⟨ge, 3, none⟩), .int .i64 (v : Int), .string (bs (Vm.put ((v : Int)).toNat)), .string (s ++ bs (Vm.put ((v : Int)).toNat)), .pointer (some ⟨ge, 5, none⟩), .int .i64 e.x, .pointer (some ⟨gc, 0, none⟩), .pointer (some ⟨ge, 3, none⟩), .int .i64 (v : Int), .pointer (some ⟨gc, 0, none⟩), .pointer (some ⟨gc, 17, none⟩), .pointer (some ⟨gc, 17 + v, none⟩), .int .i64 (q.xs v), .int .i64 (i64w (e.x - q.xs v)), .int .u64 (z : Int), .string (bs (Vm.put ((z : Int)).toNat)), .string (s ++ bs (Vm.put ((v : Int)).toNat) ++ bs (Vm.put ((z : Int)).toNat)), .string (s ++ bs (Vm.put ((v : Int)).toNat) ++ bs (Vm.put ((z : Int)).toNat))] : List Value).getD l undef := fun l hl => by
      obtain ⟨r1, r2⟩ := hR l (by simpa using hl)
      exact ⟨r1, fun tt htt => by rw [List.getD_eq_getElem?_getD, htt] at r2; exact r2⟩
    have hd5 : don 18 = false := by
      by_cases hie : i = 18
      · rw [← hie]; exact hdi
      · cases hq : don 18 with
        | false => rfl
        | true => exact absurd (hC 18 (by decide) hq i (by simpa using hlast i (by have : i < 19 := hi; omega))) (by rw [hdi]; decide)
    have hT0 : ∀ tt vv, tt ∉ ([74, 75, 76, 77, 78, 79, 80, 81, 82, 83, 84, 85, 86, 87, 88, 89, 90, 91] : List Nat) → T0[tt]? = some vv → a.tmps[tt]?.getD undef = vv := fun tt vv htt hvv => by
      by_cases h5 : tt = 5
      · subst h5
        have := hN 18 (by decide) hd5
        exact this.trans (by show T0[5]?.getD undef = vv; rw [hvv]; rfl)
      · rw [hT tt (fun hm => by simp only [List.mem_cons, List.not_mem_nil, or_false] at hm htt; omega), hvv]; rfl
    match i, hi with
    | 0, _ => exact v_move 5 (opAtW ho (by kernel_rfl)) (hT0 5 _ (by decide) h5) (hK w hM)
    | 1, _ => exact u_f41_3 3 (opAtW ho (by kernel_rfl)) (hT0 3 _ (by decide) h3) (hK w hM)
    | 2, _ => exact u_loadi 75 (opAtW ho (by kernel_rfl)) ((hU 1 (by kernel_rfl)).2 75 rfl) (by rw [← hpl]; exact (he.below hM).c3) (hK w hM)
    | 3, _ =>
      have x76 : a.tmps[76]?.getD undef = .int .i64 (v : Int) := ((hU 2 (by kernel_rfl)).2 76 rfl)
      obtain ⟨dst, op, type, pos, after, guard⟩ := oo
      have ho' : op = .call { callee := .value (.func 67), args := #[.tmp 76], argTypes := #[3] } := opAtW ho (by kernel_rfl)
      subst ho'
      clear ho hT hU hT0
      have hfun := Tryd.func67
      go_simp
      refine (rnum_any ((v : Int)) (by omega) (by omega) w).mono ?_
      rintro _ w' ⟨rfl, h1⟩
      exact hK w' (hM.trans (h1.mono hM.size))
    | 4, _ => exact u_add_9 74 77 (opAtW ho (by kernel_rfl)) ((hU 0 (by kernel_rfl)).2 74 rfl) ((hU 3 (by kernel_rfl)).2 77 rfl) (⟨by omega, by have := put_sz ((v : Int)).toNat; omega⟩) (hK w hM)
    | 5, _ => exact u_f41_5 3 (opAtW ho (by kernel_rfl)) (hT0 3 _ (by decide) h3) (hK w hM)
    | 6, _ => exact u_loadl 79 (opAtW ho (by kernel_rfl)) ((hU 5 (by kernel_rfl)).2 79 rfl) ((he.below hM).c5) (hK w hM)
    | 7, _ => exact v_move 0 (opAtW ho (by kernel_rfl)) (hT0 0 _ (by decide) h0) (hK w hM)
    | 8, _ => exact u_f41_3 3 (opAtW ho (by kernel_rfl)) (hT0 3 _ (by decide) h3) (hK w hM)
    | 9, _ => exact u_loadi 82 (opAtW ho (by kernel_rfl)) ((hU 8 (by kernel_rfl)).2 82 rfl) (by rw [← hpl]; exact (he.below hM).c3) (hK w hM)
    | 10, _ => exact u_nil 81 (opAtW ho (by kernel_rfl)) ((hU 7 (by kernel_rfl)).2 81 rfl) (hK w hM)
    | 11, _ => exact u_f81_7 84 (opAtW ho (by kernel_rfl)) ((hU 10 (by kernel_rfl)).2 84 rfl) (hK w hM)
    | 12, _ => exact u_i76 85 83 (k := v) hv (opAtW ho (by kernel_rfl)) ((hU 11 (by kernel_rfl)).2 85 rfl) ((hU 9 (by kernel_rfl)).2 83 rfl) (hK w hM)
    | 13, _ => exact u_loadl 86 (opAtW ho (by kernel_rfl)) ((hU 12 (by kernel_rfl)).2 86 rfl) ((hcd.below hM).cx hv) (hK w hM)
    | 14, _ => exact u_sub_2 80 87 (opAtW ho (by kernel_rfl)) ((hU 6 (by kernel_rfl)).2 80 rfl) ((hU 13 (by kernel_rfl)).2 87 rfl) (trivial) (hK w hM)
    | 15, _ =>
      have x88 : a.tmps[88]?.getD undef = .int .i64 (i64w (e.x - q.xs v)) := ((hU 14 (by kernel_rfl)).2 88 rfl)
      obtain ⟨dst, op, type, pos, after, guard⟩ := oo
      have ho' : op = .call { callee := .value (.func 69), args := #[.tmp 88], argTypes := #[2] } := opAtW ho (by kernel_rfl)
      subst ho'
      clear ho hT hU hT0
      have hfun := Tryd.func69
      go_simp
      have h9 := rzig_v (i64w (e.x - q.xs v)) hb.1 (by omega) w
      rw [hzz] at h9
      refine h9.mono ?_
      rintro _ w' ⟨rfl, rfl⟩
      exact hK w hM
    | 16, _ =>
      have x89 : a.tmps[89]?.getD undef = .int .u64 (z : Int) := ((hU 15 (by kernel_rfl)).2 89 rfl)
      obtain ⟨dst, op, type, pos, after, guard⟩ := oo
      have ho' : op = .call { callee := .value (.func 68), args := #[.tmp 89], argTypes := #[89] } := opAtW ho (by kernel_rfl)
      subst ho'
      clear ho hT hU hT0
      have hfun := Tryd.func68
      go_simp
      refine (rput_s z hz64 w).mono ?_
      rintro _ w' ⟨rfl, h1⟩
      exact hK w' (hM.trans (h1.mono hM.size))
    | 17, _ => exact u_add_9 78 90 (opAtW ho (by kernel_rfl)) ((hU 4 (by kernel_rfl)).2 78 rfl) ((hU 16 (by kernel_rfl)).2 90 rfl) (⟨by have := put_sz ((v : Int)).toNat; rw [ByteArray.size_append]; omega, by have := put_sz ((z : Int)).toNat; omega⟩) (hK w hM)
    | 18, _ => exact v_assign 91 (opAtW ho (by kernel_rfl)) ((hU 17 (by kernel_rfl)).2 91 rfl) (hK w hM)
    | i + 19, h => exact absurd (show i + 19 < 19 from h) (by omega)

noncomputable def rgBy16_ops : Array Oper := opsW Tryd.f38 16
set_option maxRecDepth 100000 in
set_option maxHeartbeats 4000000 in
theorem rgBy16 {id : Nat} {ops : Array Oper} (hops : ops = rgBy16_ops) (T0 : Array Value) (hsz : 114 ≤ T0.size) (W : World) (gc ge : Nat) (q : Cd) (e : Ev) (he : EvO W ge e) (hcd : RCod W gc q) (s : ByteArray) (hs : s.size ≤ 100) (g2 : 0 ≤ e.v - q.clk ∧ e.v - q.clk ≤ 9223372036854775807) (h0 : T0[0]? = some (.pointer (some ⟨gc, 0, none⟩))) (h3 : T0[3]? = some (.pointer (some ⟨ge, 0, none⟩))) (h5 : T0[5]? = some (.string s)) {Q : Exit → Act → World → Prop}
    (hend : ∀ w : World, Below W.heap.size W w → Q .normal ⟨putAll T0 [104, 105, 106, 107, 108, 109, 110, 111, 112, 113, 5] [.string s, .pointer (some ⟨ge, 4, none⟩), .int .i64 e.v, .pointer (some ⟨gc, 0, none⟩), .pointer (some ⟨gc, 0, none⟩), .pointer (some ⟨gc, 4, none⟩), .int .i64 q.clk, .int .i64 (e.v - q.clk), .string (bs (Vm.put (e.v - q.clk).toNat)), .string (s ++ bs (Vm.put (e.v - q.clk).toNat)), .string (s ++ bs (Vm.put (e.v - q.clk).toNat))], []⟩ w) : (Code.region id ops true).wp Tryd.prog Q ⟨T0, []⟩ W := by
  subst hops
  have hos : rgBy16_ops.size = 11 := by kernel_rfl
  have hga : (List.range 11).all (fun i => match rgBy16_ops[i]? with | some o => o.guard == none | none => false) = true := by kernel_rfl
  have hlast : ∀ i, i < 10 → (reachT rgBy16_ops 9 10).contains i = true := by
    have hb : ((List.range 10).all fun i => (reachT rgBy16_ops 9 10).contains i) = true := by kernel_rfl
    exact fun i hi => List.all_eq_true.1 hb i (by simpa using hi)
  refine wp_region_valsK (fun don w => Below W.heap.size W w) [.string s, .pointer (some ⟨ge, 4, none⟩), .int .i64 e.v, .pointer (some ⟨gc, 0, none⟩), .pointer (some ⟨gc, 0, none⟩), .pointer (some ⟨gc, 4, none⟩), .int .i64 q.clk, .int .i64 (e.v - q.clk), .string (bs (Vm.put (e.v - q.clk).toNat)), .string (s ++ bs (Vm.put (e.v - q.clk).toNat)), .string (s ++ bs (Vm.put (e.v - q.clk).toNat))] [104, 105, 106, 107, 108, 109, 110, 111, 112, 113, 5] W T0 rfl (by decide) (fun x hx => ?_) (by kernel_rfl) (by kernel_rfl) (fun i o j want ho hg => ?_) ((Below.refl _ _).drew) ?_ (fun w hM => hend w hM)
  · have hall : (([104, 105, 106, 107, 108, 109, 110, 111, 112, 113, 5] : List Nat).all fun d => decide (d < 114)) = true := by decide
    have := List.all_eq_true.1 hall x hx
    simp only [decide_eq_true_eq] at this
    omega
  · have hi : i < 11 := by rw [← hos]; exact (Array.getElem?_eq_some_iff.1 ho).1
    have h1 := List.all_eq_true.1 hga i (by simpa using hi)
    rw [ho] at h1
    simp only [hg, beq_iff_eq] at h1
    cases h1
  · intro i oo ho hi don a w hT hR hN hC hdi hM K hK
    have hU : ∀ l, (reachT rgBy16_ops 9 i).contains l = true → don l = true ∧ ∀ tt, ([104, 105, 106, 107, 108, 109, 110, 111, 112, 113, 5] : List Nat)[l]? = some tt → a.tmps[tt]?.getD undef = ([.string s, .pointer (some ⟨ge, 4, none⟩), .int .i64 e.v, .pointer (some ⟨gc, 0, none⟩), .pointer (some ⟨gc, 0, none⟩), .pointer (some ⟨gc, 4, none⟩), .int .i64 q.clk, .int .i64 (e.v - q.clk), .string (bs (Vm.put (e.v - q.clk).toNat)), .string (s ++ bs (Vm.put (e.v - q.clk).toNat)), .string (s ++ bs (Vm.put (e.v - q.clk).toNat))] : List Value).getD l undef := fun l hl => by
      obtain ⟨r1, r2⟩ := hR l (by simpa using hl)
      exact ⟨r1, fun tt htt => by rw [List.getD_eq_getElem?_getD, htt] at r2; exact r2⟩
    have hd5 : don 10 = false := by
      by_cases hie : i = 10
      · rw [← hie]; exact hdi
      · cases hq : don 10 with
        | false => rfl
        | true => exact absurd (hC 10 (by decide) hq i (by simpa using hlast i (by have : i < 11 := hi; omega))) (by rw [hdi]; decide)
    have hT0 : ∀ tt vv, tt ∉ ([104, 105, 106, 107, 108, 109, 110, 111, 112, 113] : List Nat) → T0[tt]? = some vv → a.tmps[tt]?.getD undef = vv := fun tt vv htt hvv => by
      by_cases h5 : tt = 5
      · subst h5
        have := hN 10 (by decide) hd5
        exact this.trans (by show T0[5]?.getD undef = vv; rw [hvv]; rfl)
      · rw [hT tt (fun hm => by simp only [List.mem_cons, List.not_mem_nil, or_false] at hm htt; omega), hvv]; rfl
    match i, hi with
    | 0, _ => exact v_move 5 (opAtW ho (by kernel_rfl)) (hT0 5 _ (by decide) h5) (hK w hM)
    | 1, _ => exact u_f41_4 3 (opAtW ho (by kernel_rfl)) (hT0 3 _ (by decide) h3) (hK w hM)
    | 2, _ => exact u_loadi 105 (opAtW ho (by kernel_rfl)) ((hU 1 (by kernel_rfl)).2 105 rfl) ((he.below hM).c4) (hK w hM)
    | 3, _ => exact v_move 0 (opAtW ho (by kernel_rfl)) (hT0 0 _ (by decide) h0) (hK w hM)
    | 4, _ => exact u_nil 107 (opAtW ho (by kernel_rfl)) ((hU 3 (by kernel_rfl)).2 107 rfl) (hK w hM)
    | 5, _ => exact u_f81_4 108 (opAtW ho (by kernel_rfl)) ((hU 4 (by kernel_rfl)).2 108 rfl) (hK w hM)
    | 6, _ => exact u_loadi 109 (opAtW ho (by kernel_rfl)) ((hU 5 (by kernel_rfl)).2 109 rfl) ((hcd.below hM).cc) (hK w hM)
    | 7, _ => exact u_sub_i 106 110 (opAtW ho (by kernel_rfl)) ((hU 2 (by kernel_rfl)).2 106 rfl) ((hU 6 (by kernel_rfl)).2 110 rfl) (by omega) (hK w hM)
    | 8, _ =>
      have x111 : a.tmps[111]?.getD undef = .int .i64 (e.v - q.clk) := ((hU 7 (by kernel_rfl)).2 111 rfl)
      obtain ⟨dst, op, type, pos, after, guard⟩ := oo
      have ho' : op = .call { callee := .value (.func 67), args := #[.tmp 111], argTypes := #[3] } := opAtW ho (by kernel_rfl)
      subst ho'
      clear ho hT hU hT0
      have hfun := Tryd.func67
      go_simp
      refine (rnum_any (e.v - q.clk) (g2).1 (g2).2 w).mono ?_
      rintro _ w' ⟨rfl, h1⟩
      exact hK w' (hM.trans (h1.mono hM.size))
    | 9, _ => exact u_add_9 104 112 (opAtW ho (by kernel_rfl)) ((hU 0 (by kernel_rfl)).2 104 rfl) ((hU 8 (by kernel_rfl)).2 112 rfl) (⟨by omega, by have := put_sz (e.v - q.clk).toNat; omega⟩) (hK w hM)
    | 10, _ => exact v_assign 113 (opAtW ho (by kernel_rfl)) ((hU 9 (by kernel_rfl)).2 113 rfl) (hK w hM)
    | i + 11, h => exact absurd (show i + 11 < 11 from h) (by omega)

end Go.Proofs.YtkfcglgikemefaaDoor
namespace Go.Proofs.YtkfcglgikemefaaDoor
set_option maxRecDepth 100000
open Go.RowKit Go.Deep
set_option linter.unusedVariables false
set_option linter.unusedSimpArgs false
set_option maxHeartbeats 4000000 in
theorem rbytes_any (q : Cd) (hq : CdOk q) (e : Ev) (ok' : EvOk e) (hm : mayT q e = true) (gc : Nat) (w : World) (hcd : RCod w gc q) :
    Calls Tryd.prog 38 #[.pointer (some ⟨gc, 0, none⟩), evV e] w fun r w' => r = .returned (.string (bs (evB q e))) ∧ Below w.heap.size w w' := by
  obtain ⟨h0, h1, hk, hv, hmk, k1, k2, k5, k7⟩ := told_of hq hm
  obtain ⟨b0, b1, _, _⟩ := who_back hk h0 h1 hq.l0 hq.l1 hq.T1
  have T0 := hq.T0
  have T1 := hq.T1
  have l0 := hq.l0
  have l1 := hq.l1
  have V1 := hq.V1
  have S1 := hq.S1
  have hwn : whoN q e = (e.kd - 1) * q.T + (e.th - q.last + q.T).tmod q.T := rfl
  have ht1 : (e.th - q.last + q.T).tmod q.T = (e.th - q.last + q.T) % q.T := tmod_id (by omega)
  have ht2 := Int.emod_nonneg (e.th - q.last + q.T) (show q.T ≠ 0 by omega)
  have ht3 := Int.emod_lt_of_pos (e.th - q.last + q.T) (show 0 < q.T by omega)
  rw [← hwn] at b0 b1
  have g1 : -9223372036854775808 ≤ (e.kd - 1) * q.T ∧ (e.kd - 1) * q.T ≤ 9223372036854775807 := by omega
  obtain ⟨w1, hw1⟩ : ∃ w1, w.alloc (.cells #[.int .u8 e.kd, .int .i64 e.th, .int .i64 e.tx, .int .i64 e.pl, .int .i64 e.v, .int .i64 e.x, .int .u8 e.why] 46) = w1 := ⟨_, rfl⟩
  have hb1 : Below w.heap.size w w1 := by rw [← hw1]; exact (Below.refl _ _).alloc (Nat.le_refl _) _
  have he1 : EvO w1 w.heap.size e := by rw [← hw1]; exact heap_alloc_new w _
  have HW := Lib.hid hw1
  have B1 := Lib.hid hb1
  have E1 := Lib.hid he1
  have C1 := Lib.hid (hcd.below hb1)
  have HEQ : Hid (evB q e = Vm.put (whoN q e).toNat ++ putsL (restN q e)) := evB_cons q e
  have HF := Lib.hid (And.intro (And.intro g1 (And.intro b0 b1)) (And.intro (And.intro h0 h1) (And.intro hk (And.intro hv (And.intro hmk (And.intro k1 (And.intro k2 (And.intro k5 k7))))))))
  obtain ⟨t, ht⟩ : ∃ t : Nat, e.th = t := ⟨e.th.toNat, by omega⟩
  have HT := Lib.hid ht
  have ht6 : t < 6 := by omega
  rw [show evV e = .agg #[.int .u8 e.kd, .int .i64 e.th, .int .i64 e.tx, .int .i64 e.pl, .int .i64 e.v, .int .i64 e.x, .int .u8 e.why] from rfl]
  obtain ⟨kk, hkk⟩ : ∃ kk, e.kd = kk := ⟨_, rfl⟩
  have HKK := Lib.hid hkk
  clear hw1 hb1 he1 hcd hwn ht1 ht2 ht3 b0 b1 g1 h0 h1 hk hv hmk k1 k2 k5 k7 ht hkk hm ok'
  go_enter Tryd.func38, Tryd.ntmps38
  go_wp2_with fail
  rw [HW.out]
  refine rgBy1 rfl _ (by simp) w1 gc w.heap.size q e E1.out C1.out (by have := HF.out.2.2.1; omega) HF.out.1.1 (by have := HF.out.2.1; omega) (by have := HF.out.2.1; omega) T0 (by have := HF.out.1.2; omega) rfl rfl ?_
  intro w2 b2
  simp only [putAll, List.setIfInBounds_toArray, List.set_cons_succ, List.set_cons_zero]
  have C2 := Lib.hid (C1.out.below b2)
  have E2 := Lib.hid (E1.out.below b2)
  have B2 := Lib.hid (B1.out.trans (b2.mono B1.out.size))
  obtain ⟨s1, hs1⟩ : ∃ s, bs (Vm.put (whoN q e).toNat) = s := ⟨_, rfl⟩
  have hz1 : s1.size ≤ 10 := by rw [← hs1]; exact put_sz _
  have HS1 := Lib.hid hs1
  rw [hs1]
  obtain ⟨ge, hge⟩ : ∃ g, g = w.heap.size := ⟨_, rfl⟩
  rw [← hge] at E2 ⊢
  have f0 : w2.cell? ⟨ge, 0, none⟩ = some (.int .u8 kk) := by rw [← HKK.out]; exact E2.out.c0
  have f3 : w2.cell? ⟨ge, 3, none⟩ = some (.int .i64 e.pl) := E2.out.c3
  have f4 : w2.cell? ⟨ge, 4, none⟩ = some (.int .i64 e.v) := E2.out.c4
  have f6 : w2.cell? ⟨ge, 6, none⟩ = some (.int .u8 e.why) := E2.out.c6
  have hone : ∀ a b : Int, restN q e = [a, b] → s1 ++ bs (Vm.put a.toNat) ++ bs (Vm.put b.toNat) = bs (evB q e) := fun a b h => by
    rw [HEQ.out, h, putsL_two, ← HS1.out, bs_app, bs_app, List.append_assoc]
  have htwo : ∀ a : Int, restN q e = [a] → s1 ++ bs (Vm.put a.toNat) = bs (evB q e) := fun a h => by
    rw [HEQ.out, h, putsL_one, ← HS1.out, bs_app]
  have hnil : restN q e = [] → s1 = bs (evB q e) := fun h => by
    rw [HEQ.out, h, ← HS1.out]
    simp [putsL]
  have H2 := Lib.hid hone
  have H1 := Lib.hid htwo
  have H0 := Lib.hid hnil
  clear b2 C1 E1 B1 hge HW hs1 hone htwo hnil T0 T1 l0 l1
  by_cases n1 : kk = 1
  · subst n1
    have hvc := HF.out.2.2.2.2.2.1 HKK.out
    have hmk := HF.out.2.2.2.2.1
    have hv := HF.out.2.2.2.1
    have hc0 := hq.c0
    unfold MayK at hmk
    have HR := Lib.hid (H2.out e.tx (e.v - q.clk) (by unfold restN; rw [if_pos HKK.out]))
    have kd1 := HKK.out
    go_wp2_with fail
    refine rgBy4 rfl _ (by simp) w2 gc ge q e E2.out C2.out s1 (by omega) (by omega) (by omega) rfl rfl rfl ?_
    intro w3 b3
    simp only [putAll, List.setIfInBounds_toArray, List.set_cons_succ, List.set_cons_zero]
    rw [HR.out]
    clear f0 f3 f4 f6 hvc hmk hv hc0 kd1
    go_wp2_with fail
    go_ret
    exact ⟨rfl, B2.out.trans (b3.mono B2.out.size)⟩
  by_cases n2 : kk = 2
  · have hbg := hq.bg t
    have hc1 := hq.c1
    have hv2 := HF.out.2.2.2.2.2.2.1 (by rw [HKK.out]; exact n2)
    rw [show e.th.toNat = t by have := HT.out; omega] at hv2
    have hpl : 0 ≤ e.pl ∧ e.pl ≤ 31 := by have hmk := HF.out.2.2.2.2.1; unfold MayK at hmk; have := HKK.out; have := hq.V1; have := hq.S1; omega
    have hv0 := HF.out.2.2.2.1
    have HR := Lib.hid (H2.out e.pl (q.bg t - e.v) (by unfold restN; rw [if_neg (by rw [HKK.out]; exact n1), if_pos (by rw [HKK.out]; exact n2), show e.th.toNat = t by have := HT.out; omega]))
    subst n2
    go_wp2_with fail
    refine rgBy6 rfl _ (by simp) w2 gc ge t ht6 q e E2.out HT.out C2.out s1 (by omega) (by omega) (by omega) rfl rfl rfl ?_
    intro w3 b3
    simp only [putAll, List.setIfInBounds_toArray, List.set_cons_succ, List.set_cons_zero]
    rw [HR.out]
    clear f0 f3 f4 f6
    go_wp2_with fail
    go_ret
    exact ⟨rfl, B2.out.trans (b3.mono B2.out.size)⟩
  by_cases n3 : kk = 3 ∨ kk = 8
  · have hpl : 0 ≤ e.pl ∧ e.pl ≤ 31 := by have hmk := HF.out.2.2.2.2.1; unfold MayK at hmk; have := HKK.out; have := hq.V1; omega
    obtain ⟨v, hv⟩ : ∃ v : Nat, e.pl = v := ⟨e.pl.toNat, by omega⟩
    have hx0 := i64w_lo (e.x - q.xs v)
    have hx1 := i64w_hi (e.x - q.xs v)
    have z0 := zig_lo _ hx0
    have z1 := zig_hi _ hx0 hx1
    obtain ⟨z, hz⟩ : ∃ z : Nat, zigV (i64w (e.x - q.xs v)) = z := ⟨(zigV (i64w (e.x - q.xs v))).toNat, by omega⟩
    have HR := H2.out (v : Int) (z : Int) (by unfold restN; rw [if_neg (by rw [HKK.out]; exact n1), if_neg (by rw [HKK.out]; exact n2), if_pos (by rw [HKK.out]; exact n3), hv, Int.toNat_natCast, hz])
    have HR := Lib.hid HR
    have HV := Lib.hid hv
    have HZ := Lib.hid hz
    have hz64 : z < 18446744073709551616 := by omega
    have hv32 : v < 32 := by omega
    clear hz z0 z1 hv hpl
    rcases n3 with rfl | rfl
    · go_wp2_with fail
      refine rgBy9 rfl _ (by simp) w2 gc ge v hv32 q e E2.out HV.out C2.out s1 (by omega) ⟨hx0, hx1⟩ z HZ.out hz64 rfl rfl rfl ?_
      intro w3 b3
      simp only [putAll, List.setIfInBounds_toArray, List.set_cons_succ, List.set_cons_zero]
      rw [HR.out]
      clear f0 f3 f4 f6
      go_wp2_with fail
      go_ret
      exact ⟨rfl, B2.out.trans (b3.mono B2.out.size)⟩
    · go_wp2_with fail
      refine rgBy9 rfl _ (by simp) w2 gc ge v hv32 q e E2.out HV.out C2.out s1 (by omega) ⟨hx0, hx1⟩ z HZ.out hz64 rfl rfl rfl ?_
      intro w3 b3
      simp only [putAll, List.setIfInBounds_toArray, List.set_cons_succ, List.set_cons_zero]
      rw [HR.out]
      clear f0 f3 f4 f6
      go_wp2_with fail
      go_ret
      exact ⟨rfl, B2.out.trans (b3.mono B2.out.size)⟩
  by_cases n4 : kk = 4 ∨ kk = 6 ∨ kk = 9 ∨ kk = 11
  · have hpl : 0 ≤ e.pl ∧ e.pl ≤ 31 := by have hmk := HF.out.2.2.2.2.1; unfold MayK at hmk; have := HKK.out; have := hq.V1; have := hq.S1; omega
    have HR := Lib.hid (H1.out e.pl (by unfold restN; rw [if_neg (by rw [HKK.out]; exact n1), if_neg (by rw [HKK.out]; exact n2), if_neg (by rw [HKK.out]; exact n3), if_pos (by rw [HKK.out]; exact n4)]))
    clear n1 n2 n3 f4 f6
    rcases n4 with rfl | rfl | rfl | rfl
    · go_wp2_with fail
      refine (rnum_any (e.pl) (by omega) (by omega) _).mono ?_
      rintro _ w3 ⟨rfl, b3⟩
      obtain ⟨s2, hs2⟩ : ∃ s, bs (Vm.put (e.pl).toNat) = s := ⟨_, rfl⟩
      have hz2 : s2.size ≤ 10 := by rw [← hs2]; exact put_sz _
      have HR2 := HR.out
      rw [hs2] at HR2
      rw [hs2]
      have HR3 := Lib.hid HR2
      have h4 : ¬ 9223372036854775807 < s1.size + s2.size := by omega
      clear hs2 HR2
      go_wp2_with fail
      go_ret
      exact ⟨by rw [HR3.out]; rfl, B2.out.trans (b3.mono B2.out.size)⟩
    · go_wp2_with fail
      refine (rnum_any (e.pl) (by omega) (by omega) _).mono ?_
      rintro _ w3 ⟨rfl, b3⟩
      obtain ⟨s2, hs2⟩ : ∃ s, bs (Vm.put (e.pl).toNat) = s := ⟨_, rfl⟩
      have hz2 : s2.size ≤ 10 := by rw [← hs2]; exact put_sz _
      have HR2 := HR.out
      rw [hs2] at HR2
      rw [hs2]
      have HR3 := Lib.hid HR2
      have h4 : ¬ 9223372036854775807 < s1.size + s2.size := by omega
      clear hs2 HR2
      go_wp2_with fail
      go_ret
      exact ⟨by rw [HR3.out]; rfl, B2.out.trans (b3.mono B2.out.size)⟩
    · go_wp2_with fail
      refine (rnum_any (e.pl) (by omega) (by omega) _).mono ?_
      rintro _ w3 ⟨rfl, b3⟩
      obtain ⟨s2, hs2⟩ : ∃ s, bs (Vm.put (e.pl).toNat) = s := ⟨_, rfl⟩
      have hz2 : s2.size ≤ 10 := by rw [← hs2]; exact put_sz _
      have HR2 := HR.out
      rw [hs2] at HR2
      rw [hs2]
      have HR3 := Lib.hid HR2
      have h4 : ¬ 9223372036854775807 < s1.size + s2.size := by omega
      clear hs2 HR2
      go_wp2_with fail
      go_ret
      exact ⟨by rw [HR3.out]; rfl, B2.out.trans (b3.mono B2.out.size)⟩
    · go_wp2_with fail
      refine (rnum_any (e.pl) (by omega) (by omega) _).mono ?_
      rintro _ w3 ⟨rfl, b3⟩
      obtain ⟨s2, hs2⟩ : ∃ s, bs (Vm.put (e.pl).toNat) = s := ⟨_, rfl⟩
      have hz2 : s2.size ≤ 10 := by rw [← hs2]; exact put_sz _
      have HR2 := HR.out
      rw [hs2] at HR2
      rw [hs2]
      have HR3 := Lib.hid HR2
      have h4 : ¬ 9223372036854775807 < s1.size + s2.size := by omega
      clear hs2 HR2
      go_wp2_with fail
      go_ret
      exact ⟨by rw [HR3.out]; rfl, B2.out.trans (b3.mono B2.out.size)⟩
  by_cases n5 : kk = 5
  · have hc0 := hq.c0
    have hv5 := HF.out.2.2.2.2.2.2.2.1 (by rw [HKK.out]; exact n5)
    have hv0 := HF.out.2.2.2.1
    have HR := Lib.hid (H1.out (e.v - q.clk) (by unfold restN; rw [if_neg (by rw [HKK.out]; exact n1), if_neg (by rw [HKK.out]; exact n2), if_neg (by rw [HKK.out]; exact n3), if_neg (by rw [HKK.out]; exact n4), if_pos (by rw [HKK.out]; exact n5)]))
    subst n5
    go_wp2_with fail
    refine rgBy16 rfl _ (by simp) w2 gc ge q e E2.out C2.out s1 (by omega) (by omega) rfl rfl rfl ?_
    intro w3 b3
    simp only [putAll, List.setIfInBounds_toArray, List.set_cons_succ, List.set_cons_zero]
    rw [HR.out]
    clear f0 f3 f4 f6
    go_wp2_with fail
    go_ret
    exact ⟨rfl, B2.out.trans (b3.mono B2.out.size)⟩
  by_cases n7 : kk = 7
  · have hv0 := HF.out.2.2.2.1
    have HR := Lib.hid (H1.out (min e.v 1) (by unfold restN; rw [if_neg (by rw [HKK.out]; exact n1), if_neg (by rw [HKK.out]; exact n2), if_neg (by rw [HKK.out]; exact n3), if_neg (by rw [HKK.out]; exact n4), if_neg (by rw [HKK.out]; exact n5), if_pos (by rw [HKK.out]; exact n7)]))
    subst n7
    clear n1 n2 n3 n4 n5 f3 f6
    by_cases hv : e.v = 0
    · have q0 : (e.v == 0) = true := by simpa using hv
      rw [show min e.v 1 = 0 by omega] at HR
      clear hv
      go_wp2_with fail
      refine (rnum_any (0 : Int) (by omega) (by omega) _).mono ?_
      rintro _ w3 ⟨rfl, b3⟩
      obtain ⟨s2, hs2⟩ : ∃ s, bs (Vm.put (0 : Int).toNat) = s := ⟨_, rfl⟩
      have hz2 : s2.size ≤ 10 := by rw [← hs2]; exact put_sz _
      have HR2 := HR.out
      rw [hs2] at HR2
      rw [hs2]
      have HR3 := Lib.hid HR2
      have h4 : ¬ 9223372036854775807 < s1.size + s2.size := by omega
      clear hs2 HR2
      go_wp2_with fail
      go_ret
      exact ⟨by rw [HR3.out]; rfl, B2.out.trans (b3.mono B2.out.size)⟩
    · have q0 : (e.v == 0) = false := beq_eq_false_iff_ne.2 hv
      rw [show min e.v 1 = 1 by omega] at HR
      clear hv
      go_wp2_with fail
      refine (rnum_any (1 : Int) (by omega) (by omega) _).mono ?_
      rintro _ w3 ⟨rfl, b3⟩
      obtain ⟨s2, hs2⟩ : ∃ s, bs (Vm.put (1 : Int).toNat) = s := ⟨_, rfl⟩
      have hz2 : s2.size ≤ 10 := by rw [← hs2]; exact put_sz _
      have HR2 := HR.out
      rw [hs2] at HR2
      rw [hs2]
      have HR3 := Lib.hid HR2
      have h4 : ¬ 9223372036854775807 < s1.size + s2.size := by omega
      clear hs2 HR2
      go_wp2_with fail
      go_ret
      exact ⟨by rw [HR3.out]; rfl, B2.out.trans (b3.mono B2.out.size)⟩
  by_cases n10 : kk = 10
  · have hy : 1 ≤ e.why ∧ e.why ≤ 6 ∧ 0 ≤ e.pl ∧ e.pl ≤ 31 := by have hmk := HF.out.2.2.2.2.1; unfold MayK at hmk; have := HKK.out; have := hq.V1; have := hq.S1; omega
    have hw : IntKind.i64.wrap e.why = e.why := IntWalk.i64_in _ ⟨by omega, by omega⟩
    have hw1 : IntKind.i64.wrap (e.why - 1) = e.why - 1 := IntWalk.i64_in _ ⟨by omega, by omega⟩
    by_cases h6 : e.why = 6
    · have q6 : (e.why != 6) = false := by simpa using h6
      have HR := Lib.hid (H1.out (e.why - 1) (by unfold restN; rw [if_neg (by rw [HKK.out]; exact n1), if_neg (by rw [HKK.out]; exact n2), if_neg (by rw [HKK.out]; exact n3), if_neg (by rw [HKK.out]; exact n4), if_neg (by rw [HKK.out]; exact n5), if_neg (by rw [HKK.out]; exact n7), if_pos (by rw [HKK.out]; exact n10), if_pos h6]))
      subst n10
      clear h6 n1 n2 n3 n4 n5 n7 f3 f4
      go_wp2_with fail
      refine (rnum_any (e.why - 1) (by omega) (by omega) _).mono ?_
      rintro _ w3 ⟨rfl, b3⟩
      obtain ⟨s2, hs2⟩ : ∃ s, bs (Vm.put (e.why - 1).toNat) = s := ⟨_, rfl⟩
      have hz2 : s2.size ≤ 10 := by rw [← hs2]; exact put_sz _
      have HR2 := HR.out
      rw [hs2] at HR2
      rw [hs2]
      have HR3 := Lib.hid HR2
      have h4 : ¬ 9223372036854775807 < s1.size + s2.size := by omega
      have f6 : w3.cell? ⟨ge, 6, none⟩ = some (.int .u8 e.why) := (E2.out.below b3).c6
      have B3 := Lib.hid (B2.out.trans (b3.mono B2.out.size))
      clear hs2 HR2 b3
      go_wp2_with fail
      go_ret
      exact ⟨by rw [HR3.out]; rfl, B3.out⟩
    · have q6 : (e.why != 6) = true := bne_iff_ne.2 h6
      have HR := Lib.hid (H2.out (e.why - 1) e.pl (by unfold restN; rw [if_neg (by rw [HKK.out]; exact n1), if_neg (by rw [HKK.out]; exact n2), if_neg (by rw [HKK.out]; exact n3), if_neg (by rw [HKK.out]; exact n4), if_neg (by rw [HKK.out]; exact n5), if_neg (by rw [HKK.out]; exact n7), if_pos (by rw [HKK.out]; exact n10), if_neg h6]))
      subst n10
      clear h6 n1 n2 n3 n4 n5 n7 f3 f4
      go_wp2_with fail
      refine (rnum_any (e.why - 1) (by omega) (by omega) _).mono ?_
      rintro _ w3 ⟨rfl, b3⟩
      obtain ⟨s2, hs2⟩ : ∃ s, bs (Vm.put (e.why - 1).toNat) = s := ⟨_, rfl⟩
      have hz2 : s2.size ≤ 10 := by rw [← hs2]; exact put_sz _
      have HR2 := HR.out
      rw [hs2] at HR2
      rw [hs2]
      have h4 : ¬ 9223372036854775807 < s1.size + s2.size := by omega
      have f6 : w3.cell? ⟨ge, 6, none⟩ = some (.int .u8 e.why) := (E2.out.below b3).c6
      have f3 : w3.cell? ⟨ge, 3, none⟩ = some (.int .i64 e.pl) := (E2.out.below b3).c3
      have B3 := Lib.hid (B2.out.trans (b3.mono B2.out.size))
      have HR3 := Lib.hid HR2
      have hz12 : (s1 ++ s2).size ≤ 20 := by rw [ByteArray.size_append]; omega
      have H12 := Lib.hid hz12
      clear hs2 HR2 b3 hz12
      go_wp2_with fail
      refine (rnum_any e.pl (by omega) (by omega) _).mono ?_
      rintro _ w4 ⟨rfl, b4⟩
      obtain ⟨s3, hs3⟩ : ∃ s, bs (Vm.put e.pl.toNat) = s := ⟨_, rfl⟩
      have hz3 : s3.size ≤ 10 := by rw [← hs3]; exact put_sz _
      have HR4 := HR3.out
      rw [hs3] at HR4
      rw [hs3]
      have hz12 := H12.out
      generalize s1 ++ s2 = s12 at *
      have h5 : ¬ 9223372036854775807 < s12.size + s3.size := by omega
      have HR5 := Lib.hid HR4
      have B4 := Lib.hid (B3.out.trans (b4.mono B3.out.size))
      clear hs3 HR4 b4 f3 f6 h4
      go_wp2_with fail
      go_ret
      exact ⟨by rw [HR5.out]; rfl, B4.out⟩
  have HR := Lib.hid (H0.out (by unfold restN; rw [if_neg (by rw [HKK.out]; exact n1), if_neg (by rw [HKK.out]; exact n2), if_neg (by rw [HKK.out]; exact n3), if_neg (by rw [HKK.out]; exact n4), if_neg (by rw [HKK.out]; exact n5), if_neg (by rw [HKK.out]; exact n7), if_neg (by rw [HKK.out]; exact n10)]))
  have q1 : (kk == 1) = false := beq_eq_false_iff_ne.2 n1
  have q2 : (kk == 2) = false := beq_eq_false_iff_ne.2 n2
  have q5 : (kk == 5) = false := beq_eq_false_iff_ne.2 n5
  have q7 : (kk == 7) = false := beq_eq_false_iff_ne.2 n7
  have q10 : (kk == 10) = false := beq_eq_false_iff_ne.2 n10
  have q3 : (kk == 3) = false := beq_eq_false_iff_ne.2 (by omega)
  have q8 : (kk == 8) = false := beq_eq_false_iff_ne.2 (by omega)
  have q4 : (kk == 4) = false := beq_eq_false_iff_ne.2 (by omega)
  have q6 : (kk == 6) = false := beq_eq_false_iff_ne.2 (by omega)
  have q9 : (kk == 9) = false := beq_eq_false_iff_ne.2 (by omega)
  have q11 : (kk == 11) = false := beq_eq_false_iff_ne.2 (by omega)
  clear n1 n2 n3 n4 n5 n7 n10 f3 f4 f6
  go_wp2_with fail
  go_ret
  exact ⟨by rw [← HR.out]; rfl, B2.out⟩
end Go.Proofs.YtkfcglgikemefaaDoor
namespace Go.Proofs.YtkfcglgikemefaaDoor
set_option maxRecDepth 100000
open Go.RowKit Go.Deep
set_option linter.unusedVariables false
set_option linter.unusedSimpArgs false
theorem rwr_more {w w' : World} {g : Nat} {most : Int} {l : List UInt8} (h : RWr w g most l) (b : Below w.heap.size w w') : RWr w' g most l := ⟨h.1.below b h.1.lt, h.2⟩
def RWriteP (gw gc : Nat) (q : Cd) (most : Int) (l : List UInt8) (e : Ev) (w : World) (r : Ending) (w' : World) : Prop :=
  r = .returned (.int .i64 (wrE q most l e)) ∧ RCod w' gc (wrQ q most l e) ∧ RWr w' gw most (wrL q most l e) ∧ Kp gw (some gc) w w'
set_option maxHeartbeats 4000000 in
theorem rwrite_any (q : Cd) (hq : CdOk q) (e : Ev) (ok' : EvOk e) (gc gw : Nat) (most : Int) (l : List UInt8) (w : World)
    (HM0 : ∀ w2, Below w.heap.size w w2 → Calls Tryd.prog 48 #[evV e, .int .i64 q.T, .int .i64 q.V, .int .i64 q.S] w2 fun r w' => r = .returned (.bool (mayB e q.T q.V q.S)) ∧ Below w2.heap.size w2 w')
    (HB0 : mayT q e = true → ∀ w2, RCod w2 gc q → Calls Tryd.prog 38 #[.pointer (some ⟨gc, 0, none⟩), evV e] w2 fun r w' => r = .returned (.string (bs (evB q e))) ∧ Below w2.heap.size w2 w')
    (hcd : RCod w gc q) (hwr : RWr w gw most l) :
    Calls Tryd.prog 16 #[.pointer (some ⟨gc, 0, none⟩), .pointer (some ⟨gw, 0, none⟩), evV e] w (RWriteP gw gc q most l e w) := by
  have hne : gc ≠ gw := Obj.unlike (w := w) (g := gc) (t := 82) hcd hwr.1 (by decide)
  have HEV : Hid (evV e = .agg #[.int .u8 e.kd, .int .i64 e.th, .int .i64 e.tx, .int .i64 e.pl, .int .i64 e.v, .int .i64 e.x, .int .u8 e.why]) := rfl
  obtain ⟨w1, hw1⟩ : ∃ w1, w.alloc (.cells #[.int .u8 e.kd, .int .i64 e.th, .int .i64 e.tx, .int .i64 e.pl, .int .i64 e.v, .int .i64 e.x, .int .u8 e.why] 46) = w1 := ⟨_, rfl⟩
  have hb1 : Below w.heap.size w w1 := by rw [← hw1]; exact (Below.refl _ _).alloc (Nat.le_refl _) _
  have he1 : EvO w1 w.heap.size e := by rw [← hw1]; exact heap_alloc_new w _
  have HW := Lib.hid hw1
  have B1 := Lib.hid hb1
  have E1 := Lib.hid he1
  have C1 := Lib.hid (hcd.below hb1)
  have W1 := Lib.hid (rwr_more hwr hb1)
  obtain ⟨y0, y1, y2, y3, y4, y5, y6⟩ := evsix he1
  have hT := rtells_any q hq e ok' gc w1 (fun w2 h2 => HM0 w2 (hb1.trans (h2.mono hb1.size))) C1.out
  have HB := Lib.hid HB0
  have HNE := Lib.hid hne
  have HLC := Lib.hid hcd.lt
  have HLW := Lib.hid hwr.1.lt
  rw [HEV.out]
  clear hw1 hb1 he1 hcd hwr HM0 HB0 hne
  by_cases hm : mayT q e = true
  rotate_left
  · have hm : mayT q e = false := by simpa using hm
    rw [hm, HEV.out] at hT
    have HT := Lib.hid hT
    have HP : Hid (∀ w', Below w1.heap.size w1 w' → RWriteP gw gc q most l e w (.returned (.int .i64 4)) w') := fun w' b => by
      refine ⟨by simp [wrE, hm], ?_, ?_, kp_below (B1.out.trans (b.mono B1.out.size))⟩
      · simp only [wrQ, hm]
        exact C1.out.below b
      · simp only [wrL, hm]
        exact rwr_more W1.out b
    clear hT hm HB
    go_enter Tryd.func16, Tryd.ntmps16
    go_wp2_with fail
    rw [HW.out]
    go_wp2_with fail
    refine HT.out.mono ?_
    rintro _ w2 ⟨rfl, b2⟩
    go_wp2_with fail
    go_ret
    exact HP.out w2 b2
  · rw [hm, HEV.out] at hT
    have HT := Lib.hid hT
    have HM := Lib.hid hm
    have HBB := Lib.hid (HB.out hm)
    clear hT hm HB
    go_enter Tryd.func16, Tryd.ntmps16
    go_wp2_with fail
    rw [HW.out]
    go_wp2_with fail
    refine HT.out.mono ?_
    rintro _ w2 ⟨rfl, b2⟩
    have C2 := Lib.hid (C1.out.below b2)
    have W2 := Lib.hid (rwr_more W1.out b2)
    have E2 := Lib.hid (E1.out.below b2)
    have B2 := Lib.hid (B1.out.trans (b2.mono B1.out.size))
    have hY := HBB.out w2 C2.out
    rw [HEV.out] at hY
    have HY := Lib.hid hY
    clear y0 y1 y2 y3 y4 y5 y6 b2 hY C1 W1 E1 B1 HT
    obtain ⟨y0, y1, y2, y3, y4, y5, y6⟩ := evsix E2.out
    go_wp2_with fail
    refine HY.out.mono ?_
    rintro _ w3 ⟨rfl, b3⟩
    have C3 := Lib.hid (C2.out.below b3)
    have W3 := Lib.hid (rwr_more W2.out b3)
    have E3 := Lib.hid (E2.out.below b3)
    have B3 := Lib.hid (B2.out.trans (b3.mono B2.out.size))
    have hR := ref_raw gw most l (bs (evB q e)) (by rw [bs_size]; have := evB_len q e; omega) w3 W3.out
    unfold RRawPost at hR
    rw [bs_bytes] at hR
    have HR := Lib.hid hR
    clear y0 y1 y2 y3 y4 y5 y6 b3 hR C2 W2 E2 B2 HY
    go_wp2_with fail
    refine HR.out.mono ?_
    rintro _ w4 ⟨rfl, r4, k4⟩
    have n1 : w.heap.size ≠ gw := Obj.unlike (w := w3) (g := w.heap.size) (t := 46) E3.out W3.out.1 (by decide)
    have c4 : RCod w4 gc q := C3.out.same (k4.block gc C3.out.lt HNE.out (by simp))
    have e4 : EvO w4 w.heap.size e := E3.out.same (k4.block w.heap.size E3.out.lt n1 (by simp))
    have K4 : Hid (Kp gw (some gc) w w4) := Kp.two (kp_below B3.out) k4.left
    have R4 := Lib.hid r4
    have C4 := Lib.hid c4
    have e4y := evsix e4
    clear r4 k4 n1 c4 e4 HR C3 W3 E3 B3
    by_cases hz : rawE most l (evB q e) = 0
    rotate_left
    · have q5 : (rawE most l (evB q e) == 0) = false := beq_eq_false_iff_ne.2 hz
      have HP : Hid (RWriteP gw gc q most l e w (.returned (.int .i64 (rawE most l (evB q e)))) w4) := by
        refine ⟨by rw [wrE, if_pos HM.out], ?_, ?_, K4.out⟩
        · rw [wrQ, if_neg (fun x => hz x.2)]
          exact C4.out
        · rw [wrL, if_pos HM.out]
          exact R4.out
      generalize rawE most l (evB q e) = z at q5 HP ⊢
      clear hz e4y
      go_wp2_with fail
      go_ret
      exact HP.out
    · have HMK := told_of hq HM.out
      have hknow := rknows_any q e gc w4 C4.out ⟨HMK.1, by have := HMK.2.1; have := hq.T1; omega⟩ (fun hk => by have := HMK.2.2.2.2.1; unfold MayK at this; have := hq.V1; omega)
      rw [HEV.out] at hknow
      have HK := Lib.hid hknow
      have HF : Hid (∀ w5, RCod w5 gc (knowQ q e) → Kp gc none w4 w5 → RWriteP gw gc q most l e w (.returned (.int .i64 0)) w5) := fun w5 c5 k5 => by
        refine ⟨by rw [wrE, if_pos HM.out, hz], ?_, ?_, K4.out.two k5.right⟩
        · rw [wrQ, if_pos ⟨HM.out, hz⟩]
          exact c5
        · rw [wrL, if_pos HM.out]
          exact ⟨R4.out.1.same (k5.block gw R4.out.1.lt (Ne.symm HNE.out) (by simp)), R4.out.2⟩
      rw [hz]
      obtain ⟨y0, y1, y2, y3, y4, y5, y6⟩ := e4y
      clear hknow hz HMK
      go_wp2_with fail
      refine HK.out.mono ?_
      rintro _ w5 ⟨rfl, c5, k5⟩
      have HP := Lib.hid (HF.out w5 c5 k5)
      clear c5 k5 HK
      go_wp2_with fail
      go_ret
      exact HP.out
end Go.Proofs.YtkfcglgikemefaaDoor
namespace Go.Proofs.YtkfcglgikemefaaDoor
set_option maxRecDepth 100000
open Go.RowKit Go.Deep
set_option linter.unusedVariables false
set_option linter.unusedSimpArgs false
def pk {α : Type} (b : Bool) (x y : α) : α := if b then x else y
/-- The program's coder and writer, the document's; copies of both coders; what is done of an event that both write. -/
structure J15 (w0 : World) (gc gv gd gw gx gy B : Nat) (most : Int) (q : Cd) (l : List UInt8) (e : Ev) (don : Nat → Bool) (w : World) : Prop where
  bel : Below w0.heap.size w0 w
  b : B ≤ w.heap.size
  cod : CodAt w gc (pk (don 6) (wrQ q most l e) q)
  wr : Wr w B gv most (pk (don 6) (wrL q most l e) l)
  rcod : RCod w gd (pk (don 13) (wrQ q most l e) q)
  rwr : RWr w gw most (pk (don 13) (wrL q most l e) l)
  cx : CodAt w gx q
  ry : RCod w gy q
section
variable {w0 w : World} {gc gv gd gw gx gy B : Nat} {most : Int} {q : Cd} {l : List UInt8} {e : Ev} {don : Nat → Bool}
theorem J15.plain (h : J15 w0 gc gv gd gw gx gy B most q l e don w) {i : Nat} (h6 : i ≠ 6) (h13 : i ≠ 13) : J15 w0 gc gv gd gw gx gy B most q l e (fun j => j == i || don j) w := by
  have e1 : (6 == i || don 6) = don 6 := by rw [beq_eq_false_iff_ne.2 (Ne.symm h6), Bool.false_or]
  have e2 : (13 == i || don 13) = don 13 := by rw [beq_eq_false_iff_ne.2 (Ne.symm h13), Bool.false_or]
  refine ⟨h.bel, h.b, ?_, ?_, ?_, ?_, h.cx, h.ry⟩
  · show CodAt w gc (pk (6 == i || don 6) _ _)
    rw [e1]; exact h.cod
  · show Wr w B gv most (pk (6 == i || don 6) _ _)
    rw [e1]; exact h.wr
  · show RCod w gd (pk (13 == i || don 13) _ _)
    rw [e2]; exact h.rcod
  · show RWr w gw most (pk (13 == i || don 13) _ _)
    rw [e2]; exact h.rwr
theorem J15.one (h : J15 w0 gc gv gd gw gx gy B most q l e don w) (hx : gx ≠ gc) (n1 : w0.heap.size ≤ gc) (n2 : w0.heap.size ≤ gv) (n3 : w0.heap.size ≤ B) {w' : World} (k1 : Wr w' B gv most (wrL q most l e)) (k2 : CodAt w' gc (wrQ q most l e)) (f : FrT B gv gc w w') : J15 w0 gc gv gd gw gx gy B most q l e (fun j => j == 6 || don j) w' := by
  obtain ⟨v, hv⟩ := h.wr
  refine ⟨h.bel.trans (f.below n2 n1 n3 h.bel.size), Nat.le_trans h.b f.size, k2, k1, ?_, ⟨?_, h.rwr.2⟩, ?_, ?_⟩
  · exact f.cells h.rcod (by decide) (Obj.unlike (w := w) (g := gd) (t := 82) h.rcod hv.1 (by decide)) (Obj.unlike (w := w) (g := gd) (t := 82) (t' := 79) h.rcod h.cod (by decide))
  · exact f.cells h.rwr.1 (by decide) (Obj.unlike (w := w) h.rwr.1 hv.1 (by decide)) (Obj.unlike (w := w) (g' := gc) (t' := 79) h.rwr.1 h.cod (by decide))
  · exact f.cells h.cx (by decide) (Obj.unlike (w := w) (g := gx) (t := 79) h.cx hv.1 (by decide)) hx
  · exact f.cells h.ry (by decide) (Obj.unlike (w := w) (g := gy) (t := 82) h.ry hv.1 (by decide)) (Obj.unlike (w := w) (g := gy) (t := 82) (t' := 79) h.ry h.cod (by decide))
theorem J15.two (h : J15 w0 gc gv gd gw gx gy B most q l e don w) (hy : gy ≠ gd) (n1 : w0.heap.size ≤ gd) (n2 : w0.heap.size ≤ gw) {w' : World} (k1 : RCod w' gd (wrQ q most l e)) (k2 : RWr w' gw most (wrL q most l e)) (k : Kp gw (some gd) w w') : J15 w0 gc gv gd gw gx gy B most q l e (fun j => j == 13 || don j) w' := by
  obtain ⟨v, hv⟩ := h.wr
  have o1 := own_not hv (g := gw) h.rwr.1 (by decide)
  have o2 := own_not hv (g := gd) h.rcod (by decide)
  refine ⟨⟨k.os.trans h.bel.os, k.tape.trans h.bel.tape, k.output.trans h.bel.output, Nat.le_trans h.bel.size k.size, fun i hi => (k.block i (Nat.lt_of_lt_of_le hi h.bel.size) (by omega) (fun x => by have := Option.some.inj x; omega)).trans (h.bel.block i hi)⟩, Nat.le_trans h.b k.size, ?_, ⟨v, ?_⟩, k1, k2, ?_, ?_⟩
  · exact h.cod.same (k.block gc h.cod.lt (Obj.unlike (w := w) (g := gc) (t := 79) h.cod h.rwr.1 (by decide)) (fun x => Obj.unlike (w := w) (g := gc) (g' := gd) (t := 79) (t' := 82) h.cod h.rcod (by decide) (Option.some.inj x)))
  · exact hv.same (k.block gv hv.1.lt (Obj.unlike (w := w) hv.1 h.rwr.1 (by decide)) (fun x => Obj.unlike (w := w) (g' := gd) (t' := 82) hv.1 h.rcod (by decide) (Option.some.inj x))) (fun r hrr => k.block r (hv.row_lt r hrr).2 (fun x => o1 (by rw [← x]; exact hrr.symm)) (fun x => o2 (by rw [← x]; exact hrr.symm)))
  · exact h.cx.same (k.block gx h.cx.lt (Obj.unlike (w := w) (g := gx) (t := 79) h.cx h.rwr.1 (by decide)) (fun x => Obj.unlike (w := w) (g := gx) (g' := gd) (t := 79) (t' := 82) h.cx h.rcod (by decide) (Option.some.inj x)))
  · exact h.ry.same (k.block gy h.ry.lt (Obj.unlike (w := w) (g := gy) (t := 82) h.ry h.rwr.1 (by decide)) (fun x => hy (Option.some.inj x)))
end
section
variable {a : Act} {w : World} {K : Act → World → Prop} {Q : Exit → Act → World → Prop} {o : Oper}
theorem w_fW (x : Nat) {g q : Nat} (ho : o.op = .fieldAddr 50 (.tmp x) 1) (hx : a.tmps[x]?.getD undef = .pointer (some ⟨g, q, none⟩)) (hK : K (a.put o.dst (.pointer (some ⟨g, q + 1, none⟩))) w) : Oper.wp Tryd.prog o a w K Q := by
  obtain ⟨dst, op, type, pos, after, guard⟩ := o
  have ho' : op = _ := ho
  subst ho'
  clear ho
  go_simp
  exact hK
theorem w_neqX (x y : Nat) {n : Int} (ho : o.op = .binOp .neq 25 (.tmp x) (.tmp y) 25) (hx : a.tmps[x]?.getD undef = .int .i64 n) (hy : a.tmps[y]?.getD undef = .int .i64 n) (hK : K (a.put o.dst (.bool false)) w) : Oper.wp Tryd.prog o a w K Q := by
  obtain ⟨dst, op, type, pos, after, guard⟩ := o
  have ho' : op = _ := ho
  subst ho'
  clear ho
  have hh : (n != n) = false := by simp
  have hK2 : K (a.put dst (.bool (n != n))) w := by rw [hh]; exact hK
  go_simp
  first | exact hK | exact hK2
theorem w_neqS (x y : Nat) {n : ByteArray} (ho : o.op = .binOp .neq 9 (.tmp x) (.tmp y) 9) (hx : a.tmps[x]?.getD undef = .string n) (hy : a.tmps[y]?.getD undef = .string n) (hK : K (a.put o.dst (.bool false)) w) : Oper.wp Tryd.prog o a w K Q := by
  obtain ⟨dst, op, type, pos, after, guard⟩ := o
  have ho' : op = _ := ho
  subst ho'
  clear ho
  have hh : (n.toList != n.toList) = false := by simp
  have hK2 : K (a.put dst (.bool (n.toList != n.toList))) w := by rw [hh]; exact hK
  go_simp
  first | exact hK | exact hK2
end
noncomputable def rgW15_ops : Array Oper := opsW Tryd.f4 15
def rgW15_ds : List Nat := [82, 83, 84, 85, 86, 87, 88, 89, 90, 91, 92, 93, 94, 95, 96, 97, 98, 99, 100, 101, 102, 103, 104, 105]
def rgW15_vs (gc gv gd gw : Nat) (e : Ev) (E : Int) (s : ByteArray) (a0 : Addr) (n ct i : Nat) : List Value := [.pointer (some ⟨gc, 0, none⟩), .pointer (some ⟨gv, 0, none⟩), .slice (some a0) n ct, .int .i64 (i : Int), .pointer (some (a0.add (i * 7))), evV e, .int .i64 E, .pointer (some ⟨gd, 0, none⟩), .pointer (some ⟨gw, 0, none⟩), .slice (some a0) n ct, .int .i64 (i : Int), .pointer (some (a0.add (i * 7))), evV e, .int .i64 E, .bool false, .bool false, .pointer (some ⟨gv, 0, none⟩), .string s, .pointer (some ⟨gw, 0, none⟩), .pointer (some ⟨gw, 0, none⟩), .pointer (some ⟨gw, 1, none⟩), .string s, .bool false, .bool false]
set_option maxRecDepth 100000 in
set_option maxHeartbeats 4000000 in
theorem rgW15 {id : Nat} {ops : Array Oper} (hops : ops = rgW15_ops) (T0 : Array Value) (hsz : 106 ≤ T0.size) (w0 W : World) (hek : Ek w0) (gc gv gd gw gx gy B : Nat) (most : Int) (q : Cd) (hq : CdOk q) (l : List UInt8) (e : Ev) (ok' : EvOk e) (hJ0 : J15 w0 gc gv gd gw gx gy B most q l e (fun _ => false) W.drew)
    (HM : ∀ w2, Below w0.heap.size w0 w2 → Calls Tryd.prog 48 #[evV e, .int .i64 q.T, .int .i64 q.V, .int .i64 q.S] w2 fun r w' => r = .returned (.bool (mayB e q.T q.V q.S)) ∧ Below w2.heap.size w2 w')
    (a0 : Addr) (n ct i : Nat) (hi : i < n) (hA : EvAt w0 (a0.add (i * 7)) e) (ha0 : a0.block < w0.heap.size) (hx : gx ≠ gc) (hy : gy ≠ gd) (n1 : w0.heap.size ≤ gc) (n2 : w0.heap.size ≤ gv) (n3 : w0.heap.size ≤ B) (n4 : w0.heap.size ≤ gd) (n5 : w0.heap.size ≤ gw)
    (h11 : T0[11]? = some (.pointer (some ⟨gc, 0, none⟩))) (h15 : T0[15]? = some (.pointer (some ⟨gv, 0, none⟩))) (h4 : T0[4]? = some (.slice (some a0) n ct)) (h19 : T0[19]? = some (.int .i64 (i : Int))) (h13 : T0[13]? = some (.pointer (some ⟨gd, 0, none⟩))) (h17 : T0[17]? = some (.pointer (some ⟨gw, 0, none⟩))) {Q : Exit → Act → World → Prop}
    (hend : ∀ (w : World), J15 w0 gc gv gd gw gx gy B most q l e (fun j => decide (j < 24)) w → Q .normal ⟨putAll T0 rgW15_ds (rgW15_vs gc gv gd gw e (wrE q most l e) (bs (wrL q most l e)) a0 n ct i), []⟩ w) : (Code.region id ops true).wp Tryd.prog Q ⟨T0, []⟩ W := by
  subst hops
  have hos : rgW15_ops.size = 24 := by kernel_rfl
  have hga : (List.range 24).all (fun i => match rgW15_ops[i]? with | some o => o.guard == none || o.guard == some (15, false) | none => false) = true := by kernel_rfl
  refine wp_region_valsJ (J15 w0 gc gv gd gw gx gy B most q l e) (rgW15_vs gc gv gd gw e (wrE q most l e) (bs (wrL q most l e)) a0 n ct i) rgW15_ds W T0 rfl (by decide) (fun x hx => ?_) (by kernel_rfl) (by kernel_rfl) (fun i o j want ho hg => ?_) hJ0 ?_ (fun w h => hend w h)
  · have hall : (rgW15_ds.all fun d => decide (d < 106)) = true := by decide
    have := List.all_eq_true.1 hall x hx
    simp only [decide_eq_true_eq] at this
    omega
  · have hi : i < 24 := by rw [← hos]; exact (Array.getElem?_eq_some_iff.1 ho).1
    have h1 := List.all_eq_true.1 hga i (by simpa using hi)
    rw [ho] at h1
    simp only [hg, Bool.or_eq_true, beq_iff_eq] at h1
    rcases h1 with h1 | h1 <;> cases h1 <;> rfl
  · intro j o ho hj don a w hT hR hdi hJ K hK
    have hT0 : ∀ t v, t ∉ rgW15_ds → T0[t]? = some v → a.tmps[t]?.getD undef = v := fun t v ht hv => by rw [hT t ht, hv]; rfl
    have hU : ∀ l', (reachT rgW15_ops 9 j).contains l' = true → a.tmps[rgW15_ds.getD l' 0]?.getD undef = (rgW15_vs gc gv gd gw e (wrE q most l e) (bs (wrL q most l e)) a0 n ct i).getD l' undef := fun l' hl => (hR l' (by simpa using hl)).2
    have hD : ∀ l', (reachT rgW15_ops 9 j).contains l' = true → don l' = true := fun l' hl => (hR l' (by simpa using hl)).1
    have hp : ∀ h6 : j ≠ 6, ∀ h13 : j ≠ 13, J15 w0 gc gv gd gw gx gy B most q l e (fun l' => l' == j || don l') w := fun h6 h13 => hJ.plain h6 h13
    match j, hj with
    | 0, _ => exact v_move 11 (opAtW ho (by kernel_rfl)) (hT0 11 _ (by decide) h11) (hK w (hp (by decide) (by decide)))
    | 1, _ => exact v_move 15 (opAtW ho (by kernel_rfl)) (hT0 15 _ (by decide) h15) (hK w (hp (by decide) (by decide)))
    | 2, _ => exact v_move 4 (opAtW ho (by kernel_rfl)) (hT0 4 _ (by decide) h4) (hK w (hp (by decide) (by decide)))
    | 3, _ => exact v_move 19 (opAtW ho (by kernel_rfl)) (hT0 19 _ (by decide) h19) (hK w (hp (by decide) (by decide)))
    | 4, _ => exact b_indexE 84 85 hi (opAtW ho (by kernel_rfl)) (hU 2 (by kernel_rfl)) (hU 3 (by kernel_rfl)) (hK w (hp (by decide) (by decide)))
    | 5, _ => exact b_loadE 86 (opAtW ho (by kernel_rfl)) (hU 4 (by kernel_rfl)) (hA.below hJ.bel (by rw [add_blockO]; exact ha0)) (hK w (hp (by decide) (by decide)))
    | 6, _ =>
      have x0 : a.tmps[82]?.getD undef = .pointer (some ⟨gc, 0, none⟩) := hU 0 (by kernel_rfl)
      have x1 : a.tmps[83]?.getD undef = .pointer (some ⟨gv, 0, none⟩) := hU 1 (by kernel_rfl)
      have x2 : a.tmps[87]?.getD undef = .agg #[.int .u8 e.kd, .int .i64 e.th, .int .i64 e.tx, .int .i64 e.pl, .int .i64 e.v, .int .i64 e.x, .int .u8 e.why] := hU 5 (by kernel_rfl)
      have c1 : CodAt w gc q := by have := hJ.cod; rw [hdi] at this; exact this
      have c2 : Wr w B gv most l := by have := hJ.wr; rw [hdi] at this; exact this
      have HC := Lib.hid (write_anyD q hq e ok' B gc gv most l w (hek.below hJ.bel) c1 c2 hJ.b)
      have HEV : evV e = .agg #[.int .u8 e.kd, .int .i64 e.th, .int .i64 e.tx, .int .i64 e.pl, .int .i64 e.v, .int .i64 e.x, .int .u8 e.why] := rfl
      rw [HEV] at HC
      obtain ⟨dst, op, type, pos, after, guard⟩ := o
      have ho' : op = .call { callee := .value (.func 15), args := #[.tmp 82, .tmp 83, .tmp 87], argTypes := #[30, 36, 46] } := opAtW ho (by kernel_rfl)
      subst ho'
      have HK := Lib.hid hK
      clear ho hT hU hT0 hR hD hp hK
      have hfun := Tryd.func15
      go_simp
      refine HC.out.mono ?_
      rintro _ w' ⟨rfl, k1, k2, k3⟩
      exact HK.out w' (hJ.one hx n1 n2 n3 k1 k2 k3)
    | 7, _ => exact v_move 13 (opAtW ho (by kernel_rfl)) (hT0 13 _ (by decide) h13) (hK w (hp (by decide) (by decide)))
    | 8, _ => exact v_move 17 (opAtW ho (by kernel_rfl)) (hT0 17 _ (by decide) h17) (hK w (hp (by decide) (by decide)))
    | 9, _ => exact v_move 4 (opAtW ho (by kernel_rfl)) (hT0 4 _ (by decide) h4) (hK w (hp (by decide) (by decide)))
    | 10, _ => exact v_move 19 (opAtW ho (by kernel_rfl)) (hT0 19 _ (by decide) h19) (hK w (hp (by decide) (by decide)))
    | 11, _ => exact b_indexE 91 92 hi (opAtW ho (by kernel_rfl)) (hU 9 (by kernel_rfl)) (hU 10 (by kernel_rfl)) (hK w (hp (by decide) (by decide)))
    | 12, _ => exact b_loadE 93 (opAtW ho (by kernel_rfl)) (hU 11 (by kernel_rfl)) (hA.below hJ.bel (by rw [add_blockO]; exact ha0)) (hK w (hp (by decide) (by decide)))
    | 13, _ =>
      have x0 : a.tmps[89]?.getD undef = .pointer (some ⟨gd, 0, none⟩) := hU 7 (by kernel_rfl)
      have x1 : a.tmps[90]?.getD undef = .pointer (some ⟨gw, 0, none⟩) := hU 8 (by kernel_rfl)
      have x2 : a.tmps[94]?.getD undef = .agg #[.int .u8 e.kd, .int .i64 e.th, .int .i64 e.tx, .int .i64 e.pl, .int .i64 e.v, .int .i64 e.x, .int .u8 e.why] := hU 12 (by kernel_rfl)
      have c1 : RCod w gd q := by have := hJ.rcod; rw [hdi] at this; exact this
      have c2 : RWr w gw most l := by have := hJ.rwr; rw [hdi] at this; exact this
      have HC := Lib.hid (rwrite_any q hq e ok' gd gw most l w (fun w2 h2 => HM w2 (hJ.bel.trans (h2.mono hJ.bel.size))) (fun hm w2 hc => rbytes_any q hq e ok' hm gd w2 hc) c1 c2)
      have HEV : evV e = .agg #[.int .u8 e.kd, .int .i64 e.th, .int .i64 e.tx, .int .i64 e.pl, .int .i64 e.v, .int .i64 e.x, .int .u8 e.why] := rfl
      rw [HEV] at HC
      obtain ⟨dst, op, type, pos, after, guard⟩ := o
      have ho' : op = .call { callee := .value (.func 16), args := #[.tmp 89, .tmp 90, .tmp 94], argTypes := #[33, 39, 46] } := opAtW ho (by kernel_rfl)
      subst ho'
      have HK := Lib.hid hK
      clear ho hT hU hT0 hR hD hp hK
      have hfun := Tryd.func16
      go_simp
      refine HC.out.mono ?_
      rintro _ w' ⟨rfl, k1, k2, k3⟩
      exact HK.out w' (hJ.two hy n4 n5 k1 k2 k3)
    | 14, _ => exact w_neqX 88 95 (opAtW ho (by kernel_rfl)) (hU 6 (by kernel_rfl)) (hU 13 (by kernel_rfl)) (hK w (hp (by decide) (by decide)))
    | 15, _ => exact v_move 96 (opAtW ho (by kernel_rfl)) (hU 14 (by kernel_rfl)) (hK w (hp (by decide) (by decide)))
    | 16, _ => exact v_move 15 (opAtW ho (by kernel_rfl)) (hT0 15 _ (by decide) h15) (hK w (hp (by decide) (by decide)))
    | 17, _ =>
      have x0 : a.tmps[98]?.getD undef = .pointer (some ⟨gv, 0, none⟩) := hU 16 (by kernel_rfl)
      have c2 : Wr w B gv most (wrL q most l e) := by have := hJ.wr; rw [hD 6 (by kernel_rfl)] at this; exact this
      have HC := Lib.hid (text_w B gv most _ w c2 _ rfl)
      have HP := Lib.hid (hp (by decide) (by decide))
      obtain ⟨dst, op, type, pos, after, guard⟩ := o
      have ho' : op = .call { callee := .value (.func 17), args := #[.tmp 98], argTypes := #[36] } := opAtW ho (by kernel_rfl)
      subst ho'
      have HK := Lib.hid hK
      clear ho hT hU hT0 hR hD hp hK
      have hfun := Tryd.func17
      go_simp
      refine HC.out.mono ?_
      rintro _ w' ⟨rfl, rfl⟩
      exact HK.out w HP.out
    | 18, _ => exact v_move 17 (opAtW ho (by kernel_rfl)) (hT0 17 _ (by decide) h17) (hK w (hp (by decide) (by decide)))
    | 19, _ => exact u_nil 100 (opAtW ho (by kernel_rfl)) (hU 18 (by kernel_rfl)) (hK w (hp (by decide) (by decide)))
    | 20, _ => exact w_fW 101 (opAtW ho (by kernel_rfl)) (hU 19 (by kernel_rfl)) (hK w (hp (by decide) (by decide)))
    | 21, _ =>
      have c2 : RWr w gw most (wrL q most l e) := by have := hJ.rwr; rw [hD 13 (by kernel_rfl)] at this; exact this
      exact u_loads 102 (opAtW ho (by kernel_rfl)) (hU 20 (by kernel_rfl)) (cell_of_row w gw 1 _ _ _ c2.1) (hK w (hp (by decide) (by decide)))
    | 22, _ => exact w_neqS 99 103 (opAtW ho (by kernel_rfl)) (hU 17 (by kernel_rfl)) (hU 21 (by kernel_rfl)) (hK w (hp (by decide) (by decide)))
    | 23, _ => exact b_orF 97 104 (opAtW ho (by kernel_rfl)) (hU 15 (by kernel_rfl)) (hU 22 (by kernel_rfl)) (hK w (hp (by decide) (by decide)))
    | j + 24, h => exact absurd (show j + 24 < 24 from h) (by omega)
end Go.Proofs.YtkfcglgikemefaaDoor
