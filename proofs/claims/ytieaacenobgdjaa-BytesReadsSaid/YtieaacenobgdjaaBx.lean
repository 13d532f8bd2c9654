/-
  CONTRACTS OF seesawref02 (the document's own answers of layer 2): a writer and a reader by their words, in the same plain numbers and lists as the contracts of package bytes. Conditions: texts of at most 2^24 bytes; integers within their kinds.
-/
import Derived.Test.YtieaacenobgdjaaBk
namespace Go.Proofs.Ytieaacenobgdjaa
open Go.RowKit
set_option linter.unusedVariables false

/-- At block g lies the document's writer of at most 'most' bytes that has the bytes l. -/
def RWr (w : World) (g : Nat) (most : Int) (l : List UInt8) : Prop := Obj w g 41 #[.int .i64 most, .string (bs l)] ∧ 0 ≤ most ∧ most ≤ 16777216 ∧ (l.length : Int) ≤ most
/-- At block g lies the document's reader. -/
def RRd (w : World) (g : Nat) (s : ByteArray) (at_ : Nat) (wr : Int) : Prop := Obj w g 63 #[.string s, .int .i64 at_, .int .i64 wr] ∧ at_ ≤ s.size ∧ s.size ≤ 16777216

theorem ref_writer (most : Int) (h0 : 0 ≤ most) (h1 : most ≤ 16777216) (w : World) :
    Calls Try.prog 13 #[.int .i64 most] w fun e w' => e = .returned (.tuple #[.pointer (some ⟨w.heap.size, 0, none⟩), .int .i64 0]) ∧ w' = w.alloc (.cells #[.int .i64 most, .string (bs [])] 41) := by
  go_enter Try.func13, Try.ntmps13
  go_wp2
  go_ret2
  exact ⟨rfl, rfl⟩
theorem ref_writer_bad (most : Int) (h0 : most < 0 ∨ 16777216 < most) (w : World) :
    Calls Try.prog 13 #[.int .i64 most] w fun e w' => e = .returned (.tuple #[.pointer none, .int .i64 1]) ∧ w = w' := by
  rcases h0 with h0 | h0
  all_goals
    go_enter Try.func13, Try.ntmps13
    go_wp2
    go_ret2
    exact ⟨rfl, rfl⟩
def RRawPost (g : Nat) (most : Int) (l s : List UInt8) (w : World) (e : Ending) (w' : World) : Prop :=
  e = .returned (.int .i64 (rawE most l s)) ∧ RWr w' g most (rawL most l s) ∧ Kp g none w w'
theorem bs_add (l : List UInt8) (s : ByteArray) : bs l ++ s = bs (l ++ s.data.toList) := by
  apply ByteArray.ext
  apply Array.toList_inj.1
  simp [bs, ByteArray.data_append]
theorem toL_len (s : ByteArray) : s.data.toList.length = s.size := by rw [Array.length_toList]; rfl
theorem ref_raw (g : Nat) (most : Int) (l : List UInt8) (s : ByteArray) (hs : s.size ≤ 281474976710656) (w : World) (h : RWr w g most l) :
    Calls Try.prog 21 #[.pointer (some ⟨g, 0, none⟩), .string s] w (RRawPost g most l s.data.toList w) := by
  obtain ⟨ho, m0, m1, hl⟩ := h
  have c0 := ho.cell 0
  have c1 := ho.cell 1
  simp at c0 c1
  have f1 := ho.free 1
  have hz := bs_size l
  have hzl : (bs l).size ≤ 16777216 := by omega
  by_cases hf : (l.length : Int) + s.size ≤ most
  · have hf' : ((bs l).size : Int) + s.size ≤ most := by omega
    have Ho := Lib.hid ho
    have Hz := Lib.hid hz
    clear hz ho
    go_enter Try.func21, Try.ntmps21
    go_wp2_with fail
    go_quiet (fail)
    go_wp2_with fail
    go_ret
    refine ⟨?_, ⟨?_, m0, m1, ?_⟩, ⟨rfl, rfl, rfl, by simp [World.setCell], fun i hi hg _ => Below.heap_setCell _ _ _ _ hg⟩⟩
    · rw [rawE, toL_len, if_pos hf]; rfl
    · have ho' := Ho.out.store 1 (.string (bs l ++ s))
      rw [rawL, toL_len, if_pos hf, ← bs_add]
      simp at ho'
      exact ho'
    · rw [rawL, toL_len, if_pos hf, List.length_append, toL_len]; omega
  · have hf' : most < ((bs l).size : Int) + s.size := by omega
    have Ho := Lib.hid ho
    clear hz ho
    go_enter Try.func21, Try.ntmps21
    go_wp2_with fail
    go_quiet (fail)
    go_wp2_with fail
    go_ret
    refine ⟨?_, ?_, kp_below (drewN_below w _)⟩
    · rw [rawE, toL_len, if_neg (by omega)]; rfl
    · rw [rawL, toL_len, if_neg (by omega)]; exact ⟨Ho.out, m0, m1, hl⟩

theorem ref_byte (g : Nat) (most : Int) (l : List UInt8) (b : Nat) (hb : b < 256) (w : World) (h : RWr w g most l) :
    Calls Try.prog 15 #[.pointer (some ⟨g, 0, none⟩), .int .u8 b] w (RRawPost g most l [UInt8.ofNat b] w) := by
  have hc := conv_one ⟨w.heap.size, 0, none⟩ b hb (w.alloc (.cells #[.int .u8 b] 5)) (by rw [cell_new]; rfl)
  have hbl : Below w.heap.size w (w.alloc (.cells #[.int .u8 b] 5)) := (Below.refl _ _).alloc (Nat.le_refl _) _
  have Hr := Lib.hid (ref_raw g most l ⟨#[UInt8.ofNat b]⟩ (by show 1 ≤ _; omega) _ ⟨h.1.below hbl h.1.lt, h.2⟩)
  have Hbl := Lib.hid hbl
  clear h hbl
  go_enter Try.func15, Try.ntmps15
  go_wp2_with fail
  refine Hr.out.mono ?_
  rintro e w' ⟨rfl, h1, h2⟩
  go_wp2_with fail
  go_ret
  exact ⟨rfl, h1, Kp.of_below Hbl.out h2⟩
theorem rput_s (n : Nat) (hn : n < 18446744073709551616) (w : World) :
    Calls Try.prog 45 #[.int .u64 n] w fun e w' => e = .returned (.string (bs (Vm.put n))) ∧ Below w.heap.size w w' := rput_any 10 n (by omega) (Vm.lt_pow10 hn) hn (by omega) w
theorem ref_num (g : Nat) (most : Int) (l : List UInt8) (n : Nat) (hn : n < 18446744073709551616) (w : World) (h : RWr w g most l) :
    Calls Try.prog 17 #[.pointer (some ⟨g, 0, none⟩), .int .u64 n] w (RRawPost g most l (Vm.put n) w) := by
  have hl := Vm.put_len n
  go_enter Try.func17, Try.ntmps17
  go_wp2_with fail
  refine (rput_s n hn w).mono ?_
  rintro e w1 ⟨rfl, hb⟩
  go_wp2_with fail
  refine (ref_raw g most l (bs (Vm.put n)) (by rw [bs_size]; omega) _ ⟨h.1.below hb h.1.lt, h.2⟩).mono ?_
  rintro e w' ⟨rfl, h1, h2⟩
  go_wp2_with fail
  go_ret
  exact ⟨rfl, h1, Kp.of_below hb h2⟩
theorem ref_int (g : Nat) (most : Int) (l : List UInt8) (x : Int) (h0 : -9223372036854775808 ≤ x) (hx : x < 9223372036854775808) (w : World) (h : RWr w g most l) :
    Calls Try.prog 19 #[.pointer (some ⟨g, 0, none⟩), .int .i64 x] w (RRawPost g most l (Vm.put (zigV x).toNat) w) := by
  have hz : 0 ≤ zigV x ∧ zigV x < 18446744073709551616 := by unfold zigV; split <;> omega
  obtain ⟨n, hn⟩ := Int.eq_ofNat_of_zero_le hz.1
  have hl := Vm.put_len n
  have hn' : n < 18446744073709551616 := by omega
  have Hz := rzig_v x h0 hx w
  rw [hn] at Hz
  rw [hn, Int.toNat_natCast]
  clear hn hz
  have HZ := Lib.hid Hz
  clear Hz
  go_enter Try.func19, Try.ntmps19
  go_wp2_with fail
  refine HZ.out.mono ?_
  rintro e w1 ⟨rfl, rfl⟩
  go_wp2_with fail
  refine (rput_s n hn' w).mono ?_
  rintro e w1 ⟨rfl, hb⟩
  go_wp2_with fail
  refine (ref_raw g most l (bs (Vm.put n)) (by rw [bs_size]; omega) _ ⟨h.1.below hb h.1.lt, h.2⟩).mono ?_
  rintro e w' ⟨rfl, h1, h2⟩
  go_wp2_with fail
  go_ret
  exact ⟨rfl, h1, Kp.of_below hb h2⟩

theorem ref_reader (s : ByteArray) (hs : s.size ≤ 16777216) (w : World) :
    Calls Try.prog 25 #[.string s] w fun e w' => e = .returned (.tuple #[.pointer (some ⟨w.heap.size, 0, none⟩), .int .i64 0]) ∧ w' = w.alloc (.cells #[.string s, .int .i64 0, .int .i64 0] 63) := by
  go_enter Try.func25, Try.ntmps25
  go_wp2
  go_ret2
  exact ⟨rfl, rfl⟩
theorem rrd_more {w w' : World} {g : Nat} {s : ByteArray} {a : Nat} {wr : Int} (h : RRd w g s a wr) (hb : Below w.heap.size w w') : RRd w' g s a wr := ⟨h.1.below hb h.1.lt, h.2⟩
theorem rrd_bad {w w3 : World} {g : Nat} {s : ByteArray} {at_ : Nat} {wr : Int} (er : Int) (h : RRd w g s at_ wr) (b3 : Below w.heap.size w w3) :
    RRd (w3.setCell ⟨g, 2, none⟩ (.int .i64 er)) g s at_ er ∧ Kp g none w (w3.setCell ⟨g, 2, none⟩ (.int .i64 er)) := by
  have o3 := h.1.below b3 h.1.lt
  refine ⟨⟨by simpa using o3.store 2 (.int .i64 er), h.2⟩, ⟨b3.os, b3.tape, b3.output, by simpa [World.setCell] using b3.size, fun i hi hg _ => ?_⟩⟩
  rw [Below.heap_setCell _ _ _ _ hg]
  exact b3.block i hi
theorem rrd_go {w w3 : World} {g : Nat} {s : ByteArray} {at_ size : Nat} {z wr : Int} (h : RRd w g s at_ wr) (b3 : Below w.heap.size w w3) (hz : z = ((at_ + size : Nat) : Int)) (h1 : at_ + size ≤ s.size) :
    RRd (w3.setCell ⟨g, 1, none⟩ (.int .i64 z)) g s (at_ + size) wr ∧ Kp g none w (w3.setCell ⟨g, 1, none⟩ (.int .i64 z)) := by
  subst hz
  have o3 := h.1.below b3 h.1.lt
  refine ⟨⟨by simpa using o3.store 1 (.int .i64 ((at_ + size : Nat) : Int)), h1, h.2.2⟩, ⟨b3.os, b3.tape, b3.output, by simpa [World.setCell] using b3.size, fun i hi hg _ => ?_⟩⟩
  rw [Below.heap_setCell _ _ _ _ hg]
  exact b3.block i hi
def RSet (er : Int) (g : Nat) (s : ByteArray) (a : Nat) (wr : Int) (w : World) (e : Ending) (w' : World) : Prop :=
  e = .returned (.int .i64 er) ∧ RRd w' g s a wr ∧ Kp g none w w'
def RRdPost (v : Value) (er : Int) (g : Nat) (s : ByteArray) (a : Nat) (wr : Int) (w : World) (e : Ending) (w' : World) : Prop :=
  e = .returned (.tuple #[v, .int .i64 er]) ∧ RRd w' g s a wr ∧ Kp g none w w'
theorem ref_set (er : Int) (g : Nat) (s : ByteArray) (at_ : Nat) (wr : Int) (w : World) (h : RRd w g s at_ wr) :
    Calls Try.prog 54 #[.pointer (some ⟨g, 0, none⟩), .int .i64 er] w (RSet er g s at_ er w) := by
  have c2 := h.1.cell 2
  simp at c2
  have f2 := h.1.free 2
  have H := Lib.hid h
  clear h
  go_enter Try.func54, Try.ntmps54
  go_wp2_with fail
  go_ret
  have R := rrd_bad er H.out (Below.refl _ w)
  exact ⟨rfl, R.1, R.2⟩
theorem rref_wrong_no (g : Nat) (s : ByteArray) (at_ : Nat) (w : World) (h : RRd w g s at_ 0) :
    Calls Try.prog 39 #[.pointer (some ⟨g, 0, none⟩)] w fun e w' => e = .returned (.tuple #[.int .i64 0, .int .i64 0]) ∧ w = w' := by
  have c2 := h.1.cell 2
  simp at c2
  clear h
  go_enter Try.func39, Try.ntmps39
  go_wp2
  go_ret2
  exact ⟨rfl, rfl⟩
theorem rref_wrong_yes (g : Nat) (s : ByteArray) (at_ : Nat) (wr : Int) (hw : wr ≠ 0) (w : World) (h : RRd w g s at_ wr) :
    Calls Try.prog 39 #[.pointer (some ⟨g, 0, none⟩)] w fun e w' => e = .returned (.tuple #[.int .i64 at_, .int .i64 wr]) ∧ ∃ n, w' = w.drewN n := by
  have c1 := h.1.cell 1
  have c2 := h.1.cell 2
  simp at c1 c2
  have hb : (wr == 0) = false := by simpa using hw
  clear h
  go_enter Try.func39, Try.ntmps39
  go_wp2_with fail
  go_quiet (fail)
  go_wp2_with fail
  go_ret2
  exact ⟨rfl, _, rfl⟩
theorem ref_left (g : Nat) (s : ByteArray) (at_ : Nat) (wr : Int) (w : World) (h : RRd w g s at_ wr) :
    Calls Try.prog 42 #[.pointer (some ⟨g, 0, none⟩)] w fun e w' => e = .returned (.int .i64 (s.size - at_ : Nat)) ∧ ∃ n, w' = w.drewN n := by
  obtain ⟨ho, h1, h2⟩ := h
  have c0 := ho.cell 0
  have c1 := ho.cell 1
  simp at c0 c1
  have hz : ((s.size : Int) - (at_ : Int)) = ((s.size - at_ : Nat) : Int) := by omega
  rw [← hz]
  clear hz ho
  go_enter Try.func42, Try.ntmps42
  go_wp2_with fail
  go_quiet (fail)
  go_wp2_with fail
  go_ret
  exact ⟨rfl, _, rfl⟩
end Go.Proofs.Ytieaacenobgdjaa
