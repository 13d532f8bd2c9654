/-
  CONTRACT OF THE STATEMENTS' OWN 'awake' (layer 2: the chapter's examples): it returns true; what was in memory stays as it was. No condition. And a writer's contracts for a writer whose slice is not named.
-/
import Derived.Test.YtieaacenobgdjaaBa
namespace Go.Proofs.Ytieaacenobgdjaa
open Go.RowKit
set_option linter.unusedVariables false
def WPost (B g : Nat) (most : Int) (l : List UInt8) (er : Int) (w : World) (e : Ending) (w' : World) : Prop :=
  e = .returned (.int .i64 er) ∧ Wr w' B g most l ∧ Fr B g w w'
theorem wpost_of {B g : Nat} {most : Int} {l s : List UInt8} {v : Value} {w w' : World} {e : Ending} (hv : WrV w B g most l v) (h : RawPost B g most l v s w e w') : WPost B g most (rawL most l s) (rawE most l s) w e w' :=
  ⟨h.1, h.2.1, h.2.2.fr fun r hr => (hv.row_lt r hr).1⟩
theorem raw_w (B g : Nat) (most : Int) (l : List UInt8) (s : ByteArray) (w : World) (h : Wr w B g most l) (hB : B ≤ w.heap.size) (hs : s.size ≤ 9223372036854775807) (l' : List UInt8) (er : Int) (h1 : rawL most l s.data.toList = l') (h2 : rawE most l s.data.toList = er) :
    Calls Try.prog 20 #[.pointer (some ⟨g, 0, none⟩), .string s] w (WPost B g most l' er w) := by
  obtain ⟨v, hv⟩ := h
  subst h1; subst h2
  exact (raw_any B g most l v s w hv hB hs).mono fun e w' hp => wpost_of hv hp
theorem byte_w (B g : Nat) (most : Int) (l : List UInt8) (b : Nat) (hb : b < 256) (w : World) (h : Wr w B g most l) (hB : B ≤ w.heap.size) (l' : List UInt8) (er : Int) (h1 : rawL most l [UInt8.ofNat b] = l') (h2 : rawE most l [UInt8.ofNat b] = er) :
    Calls Try.prog 14 #[.pointer (some ⟨g, 0, none⟩), .int .u8 b] w (WPost B g most l' er w) := by
  obtain ⟨v, hv⟩ := h
  subst h1; subst h2
  exact (byte_any B g most l v b hb w hv hB).mono fun e w' hp => wpost_of hv hp
theorem num_w (B g : Nat) (most : Int) (l : List UInt8) (n : Nat) (hn : n < 18446744073709551616) (w : World) (h : Wr w B g most l) (hB : B ≤ w.heap.size) (l' : List UInt8) (er : Int) (h1 : rawL most l (Vm.put n) = l') (h2 : rawE most l (Vm.put n) = er) :
    Calls Try.prog 16 #[.pointer (some ⟨g, 0, none⟩), .int .u64 n] w (WPost B g most l' er w) := by
  obtain ⟨v, hv⟩ := h
  subst h1; subst h2
  exact (num_any B g most l v n hn w hv hB).mono fun e w' hp => wpost_of hv hp
theorem int_w (B g : Nat) (most : Int) (l : List UInt8) (x : Int) (h0 : -9223372036854775808 ≤ x) (hx : x < 9223372036854775808) (w : World) (h : Wr w B g most l) (hB : B ≤ w.heap.size) (l' : List UInt8) (er : Int) (h1 : rawL most l (Vm.put (zigV x).toNat) = l') (h2 : rawE most l (Vm.put (zigV x).toNat) = er) :
    Calls Try.prog 18 #[.pointer (some ⟨g, 0, none⟩), .int .i64 x] w (WPost B g most l' er w) := by
  obtain ⟨v, hv⟩ := h
  subst h1; subst h2
  exact (int_any B g most l v x h0 hx w hv hB).mono fun e w' hp => wpost_of hv hp
theorem len_w (B g : Nat) (most : Int) (l : List UInt8) (w : World) (h : Wr w B g most l) :
    Calls Try.prog 22 #[.pointer (some ⟨g, 0, none⟩)] w fun e w' => e = .returned (.int .i64 l.length) ∧ w = w' := by
  obtain ⟨v, hv⟩ := h
  exact len_any B g most l v w hv
theorem text_w (B g : Nat) (most : Int) (l : List UInt8) (w : World) (h : Wr w B g most l) (s : ByteArray) (hs : bs l = s) :
    Calls Try.prog 23 #[.pointer (some ⟨g, 0, none⟩)] w fun e w' => e = .returned (.string s) ∧ w = w' := by
  obtain ⟨v, hv⟩ := h
  subst hs
  exact text_any B g most l v w hv
/-- A new writer. -/
theorem wr_new (most : Int) (h0 : 0 ≤ most) (h1 : most ≤ 16777216) (w : World) : Wr (w.alloc (.cells #[.int .i64 most, .slice none 0 0] 69)) (w.heap.size + 1) w.heap.size most [] :=
  ⟨_, Obj.made _ _ _, World.ownsRow_nil _ _ _ _, h0, h1, by simpa using h0⟩
theorem rd_new (s : ByteArray) (hs : s.size ≤ 16777216) (w : World) : Rd (w.alloc (.cells #[.string s, .int .i64 0, .int .i64 0] 73)) w.heap.size s 0 0 :=
  ⟨Obj.made _ _ _, Nat.zero_le _, hs⟩
theorem alloc_below (w : World) (o : Go.Obj) : Below w.heap.size w (w.alloc o) := (Below.refl _ _).alloc (Nat.le_refl _) o
theorem size_alloc1 (w : World) (o : Go.Obj) : (w.alloc o).heap.size = w.heap.size + 1 := by simp
theorem Kp.below0 {g : Nat} {w w' : World} {B0 : Nat} (h : Kp g none w w') (hg : B0 ≤ g) (hw : B0 ≤ w.heap.size) : Below B0 w w' :=
  ⟨h.os, h.tape, h.output, h.size, fun i hi => h.block i (by omega) (by omega) (by simp)⟩

theorem e_num (s : ByteArray) (most : Int) (g : Nat) (w : World) (at_ : Nat) (wr : Int) (h : Rd w g s at_ wr) (x er : Int) (a : Nat) (wr' : Int) (e : rNum most s at_ wr = (x, er, a, wr')) :
    Calls Try.prog 28 #[.pointer (some ⟨g, 0, none⟩), .int .u64 most] w (RdPost (.int .u64 x) er g s a wr' w) := by
  have := rNum_any most g s at_ wr w h
  rw [e] at this
  exact this
theorem e_int (s : ByteArray) (g : Nat) (w : World) (at_ : Nat) (wr : Int) (h : Rd w g s at_ wr) (x er : Int) (a : Nat) (wr' : Int) (e : rInt s at_ wr = (x, er, a, wr')) :
    Calls Try.prog 30 #[.pointer (some ⟨g, 0, none⟩)] w (RdPost (.int .i64 x) er g s a wr' w) := by
  have := rInt_any g s at_ wr w h
  rw [e] at this
  exact this
theorem e_byte (s : ByteArray) (g : Nat) (w : World) (at_ : Nat) (wr : Int) (h : Rd w g s at_ wr) (x er : Int) (a : Nat) (wr' : Int) (e : rByte s at_ wr = (x, er, a, wr')) :
    Calls Try.prog 26 #[.pointer (some ⟨g, 0, none⟩)] w (RdPost (.int .u8 x) er g s a wr' w) := by
  have := rByte_any g s at_ wr w h
  rw [e] at this
  exact this
theorem e_raw (s : ByteArray) (n : Int) (g : Nat) (w : World) (at_ : Nat) (wr : Int) (h : Rd w g s at_ wr) (x : ByteArray) (er : Int) (a : Nat) (wr' : Int) (e : rRaw n s at_ wr = (x, er, a, wr')) :
    Calls Try.prog 32 #[.pointer (some ⟨g, 0, none⟩), .int .i64 n] w (RdPost (.string x) er g s a wr' w) := by
  have := rRaw_any n g s at_ wr w h
  rw [e] at this
  exact this

set_option maxRecDepth 100000 in
theorem awake_any (w : World) : Calls Try.prog 11 #[] w fun e w' => e = .returned (.bool true) ∧ Below w.heap.size w w' := by
  go_enter Try.func11, Try.ntmps11
  go_wp2_with fail
  refine (new_writer 9 (by omega) (by omega) _).mono ?_
  rintro e w1 ⟨rfl, h1⟩
  have r1 := wr_new 9 (by omega) (by omega) w
  have b1 := alloc_below w (.cells #[.int .i64 9, .slice none 0 0] 69)
  have z1 := size_alloc1 w (.cells #[.int .i64 9, .slice none 0 0] 69)
  rw [← h1] at r1 b1 z1
  have Z1 := Lib.hid z1
  have q1 : w.heap.size + 1 ≤ w1.heap.size := by omega
  clear h1 z1
  go_wp2_with fail
  refine (num_w _ _ _ _ 300 (by omega) _ r1 q1 [172, 2] 0 (by kernel_rfl) (by kernel_rfl)).mono ?_
  rintro e w2 ⟨rfl, r2, f2⟩
  have b2 := b1.trans (f2.below (B0 := w.heap.size) (by omega) (by omega) (by omega))
  have q2 : w.heap.size + 1 ≤ w2.heap.size := Nat.le_trans q1 f2.size
  clear r1 f2 b1 q1
  go_wp2_with fail
  refine (int_w _ _ _ _ (-1) (by omega) (by omega) _ r2 q2 [172, 2, 1] 0 (by kernel_rfl) (by kernel_rfl)).mono ?_
  rintro e w3 ⟨rfl, r3, f3⟩
  have b3 := b2.trans (f3.below (B0 := w.heap.size) (by omega) (by omega) (by omega))
  have q3 : w.heap.size + 1 ≤ w3.heap.size := Nat.le_trans q2 f3.size
  clear r2 f3 b2 q2
  go_wp2_with fail
  refine (raw_w _ _ _ _ ⟨#[97, 98]⟩ _ r3 q3 (by decide) [172, 2, 1, 97, 98] 0 (by kernel_rfl) (by kernel_rfl)).mono ?_
  rintro e w4 ⟨rfl, r4, f4⟩
  have b4 := b3.trans (f4.below (B0 := w.heap.size) (by omega) (by omega) (by omega))
  have q4 : w.heap.size + 1 ≤ w4.heap.size := Nat.le_trans q3 f4.size
  clear r3 f4 b3 q3
  go_wp2_with fail
  refine (text_w _ _ _ _ _ r4 ⟨#[172, 2, 1, 97, 98]⟩ rfl).mono ?_
  rintro e w5 ⟨rfl, rfl⟩
  go_wp2_with fail
  refine (text_w _ _ _ _ _ r4 ⟨#[172, 2, 1, 97, 98]⟩ rfl).mono ?_
  rintro e w5 ⟨rfl, rfl⟩
  go_wp2_with fail
  refine (new_reader ⟨#[172, 2, 1, 97, 98]⟩ (by decide) _).mono ?_
  rintro e w5 ⟨rfl, h5⟩
  have r5 := rd_new ⟨#[172, 2, 1, 97, 98]⟩ (by decide) w4
  have b5 := b4.trans ((alloc_below w4 (.cells #[.string ⟨#[172, 2, 1, 97, 98]⟩, .int .i64 0, .int .i64 0] 73)).mono b4.size)
  rw [← h5] at r5 b5
  have l4 := b4.size
  clear h5 r4 b4 q4 Z1
  go_wp2_with fail
  refine (e_num _ _ _ _ _ _ r5 300 0 2 0 (by kernel_rfl)).mono ?_
  rintro e w6 ⟨rfl, r6, k6⟩
  have b6 := b5.trans (k6.below0 l4 b5.size)
  clear r5 k6 b5
  go_wp2_with fail
  refine (at_any _ _ _ _ _ r6).mono ?_
  rintro e w' ⟨rfl, rfl⟩
  go_wp2_with fail
  refine (e_int _ _ _ _ _ r6 (-1) 0 3 0 (by kernel_rfl)).mono ?_
  rintro e w7 ⟨rfl, r7, k7⟩
  have b7 := b6.trans (k7.below0 l4 b6.size)
  clear r6 k7 b6
  go_wp2_with fail
  refine (at_any _ _ _ _ _ r7).mono ?_
  rintro e w' ⟨rfl, rfl⟩
  go_wp2_with fail
  refine (new_reader ⟨#[128]⟩ (by decide) _).mono ?_
  rintro e w8 ⟨rfl, h8⟩
  have r8 := rd_new ⟨#[128]⟩ (by decide) w7
  have b8 := b7.trans ((alloc_below w7 (.cells #[.string ⟨#[128]⟩, .int .i64 0, .int .i64 0] 73)).mono b7.size)
  rw [← h8] at r8 b8
  have l7 := b7.size
  clear h8 r7 b7
  go_wp2_with fail
  refine (e_num _ _ _ _ _ _ r8 0 8 0 8 (by kernel_rfl)).mono ?_
  rintro e w9 ⟨rfl, r9, k9⟩
  have b9 := b8.trans (k9.below0 l7 b8.size)
  clear r8 k9 b8
  go_wp2_with fail
  refine (e_byte _ _ _ _ _ r9 0 8 0 8 (by kernel_rfl)).mono ?_
  rintro e w10 ⟨rfl, r10, k10⟩
  have b10 := b9.trans (k10.below0 l7 b9.size)
  clear r9 k10 b9
  go_wp2_with fail
  refine (wrong_yes _ _ _ _ (by decide) _ r10).mono ?_
  rintro e w11 ⟨rfl, n, rfl⟩
  go_wp2_with fail
  go_ret
  exact ⟨rfl, b10.trans ((drewN_below w10 n).mono b10.size)⟩
end Go.Proofs.Ytieaacenobgdjaa
