/-
  CONTRACTS OF PACKAGE frame: Sum, end, Wrap: what each answers, in plain numbers and bytes; the memory that was there stays as it was. Conditions: texts shorter than 2^63 bytes; a body that is wrapped has at most 2^40 bytes.
-/
import Derived.Test.YtpgkhodofhnpnaaDoorFc
namespace Go.Proofs.YtpgkhodofhnpnaaDoor
set_option maxRecDepth 100000
open Go.RowKit
set_option linter.unusedVariables false

theorem below_new {w w3 : World} {o : Obj} (h : Below (w.alloc o).heap.size (w.alloc o) w3) : Below w.heap.size w w3 :=
  ((Below.refl _ _).alloc (Nat.le_refl _) o).trans (h.mono (by simp))
theorem natsAll_one (s : ByteArray) : natsAll [s] = nats s := by rw [natsAll, List.flatMap_cons, List.flatMap_nil, List.append_nil]
theorem sum_lt (l : List Nat) (h : ∀ b ∈ l, b < 256) : Fm.sum l < 4294967296 := Nat.xor_lt_two_pow (n := 32) (by decide) (Fm.reg_lt l (by decide) h)
/-- The cells of the sum's bytes, k of them laid. -/
def seaC (n : Nat) : Nat → Array Value
  | 0 => #[.int .u8 0, .int .u8 0, .int .u8 0, .int .u8 0]
  | 1 => #[.int .u8 (n % 256 : Nat), .int .u8 0, .int .u8 0, .int .u8 0]
  | 2 => #[.int .u8 (n % 256 : Nat), .int .u8 (n / 256 % 256 : Nat), .int .u8 0, .int .u8 0]
  | 3 => #[.int .u8 (n % 256 : Nat), .int .u8 (n / 256 % 256 : Nat), .int .u8 (n / 65536 % 256 : Nat), .int .u8 0]
  | _ => #[.int .u8 (n % 256 : Nat), .int .u8 (n / 256 % 256 : Nat), .int .u8 (n / 65536 % 256 : Nat), .int .u8 (n / 16777216 % 256 : Nat)]
def footS (n : Nat) : ByteArray := ⟨((Fm.four n).map UInt8.ofNat).toArray⟩

theorem arr4_under : Tryd.prog.underlying 101 = some (.array (Tryd.prog.arrayLen 101) (Tryd.prog.elem 101)) := by kernel_rfl
theorem arr4_len : Tryd.prog.arrayLen 101 = 4 := by kernel_rfl
theorem arr4_elem (w : World) : (Go.sizeOf (Tryd.prog.elem 101)).run Tryd.prog w = .ok 1 w := by kernel_rfl
theorem sl_all (a : Addr) (wx : World) :
    (Instr.sliceAt 101 (.pointer (some a)) none none none).run Tryd.prog wx = .ok (.slice (some a) 4 4) wx := by
  rw [run_sliceAt_array_all wx _ a arr4_under, arr4_elem, arr4_len]
  simp [Result.andThen, slicedAt, Addr.add]
theorem four_lt (n : Nat) : ∀ b ∈ Fm.four n, b < 256 := by
  intro b hb
  simp [Fm.four] at hb
  omega
theorem conv_four (n : Nat) (w : World) :
    (convert 70 9 (.slice (some ⟨w.heap.size, 0, none⟩) 4 4)).run Tryd.prog (w.alloc (.cells (seaC n 4) 101)) = .ok (.string (footS n)) (w.alloc (.cells (seaC n 4) 101)) :=
  run_convert_bytes_back (P := Tryd.prog) (w.alloc (.cells (seaC n 4) 101)) 70 9 5 ⟨w.heap.size, 0, none⟩ 4 ((Fm.four n).map UInt8.ofNat) u_bytes u_byte u_string (fun j hj => by
    have e : (⟨w.heap.size, 0, none⟩ : Addr).add j = ⟨w.heap.size, j, none⟩ := by unfold Addr.add; split <;> simp_all
    rw [e, cell_new]
    have hj4 : j < 4 := by simpa [Fm.four] using hj
    rcases (by omega : j = 0 ∨ j = 1 ∨ j = 2 ∨ j = 3) with rfl | rfl | rfl | rfl <;> simp [seaC, Fm.four, UInt8.toNat_ofNat'])

set_option maxRecDepth 100000 in
theorem end_in (g c : Nat) (L : List ByteArray) (w : World) (hg : g < w.heap.size) (hn : L.length ≤ 1000) (hL : ∀ j (h : j < L.length), w.cell? ⟨g, j, none⟩ = some (.string L[j])) (hs : ∀ s ∈ L, s.size ≤ 9223372036854775807) :
    Calls Tryd.prog 31 #[.slice (some ⟨g, 0, none⟩) L.length c] w fun e w' => e = .returned (.string (footS (Fm.sum (natsAll L)))) ∧ Below w.heap.size w w' := by
  go_enter Tryd.func31, Tryd.ntmps31
  go_wp2_with fail
  refine (sum_in g c L w hg hn hL hs).mono ?_
  rintro e w1 ⟨rfl, hb⟩
  have hlt := sum_lt (natsAll L) (natsAll_lt L)
  obtain ⟨n, hn1⟩ : ∃ n, n = Fm.sum (natsAll L) := ⟨_, rfl⟩
  rw [← hn1] at hlt ⊢
  have HN := Lib.hid hn1
  clear hn1
  go_wp2_with fail
  go_loopw [8] (fun i wr => ∃ k : Nat, k ≤ 4 ∧ i = .int .i64 k ∧ wr = w1.alloc (.cells (seaC n k) 101)) (fun i _ => 4 - (intOf i).toNat)
  case atStart => exact ⟨0, by omega, rfl, rfl⟩
  case round =>
    obtain ⟨k, hk, rfl, rfl⟩ := hrel
    by_cases hlt : k < 4
    · rcases (by omega : k = 0 ∨ k = 1 ∨ k = 2 ∨ k = 3) with rfl | rfl | rfl | rfl
      all_goals unfold seaC
      all_goals go_wp2
      all_goals go_roundw
      case rel => exact ⟨1, by omega, by go_num, rfl⟩
      case rel => exact ⟨2, by omega, by go_num, rfl⟩
      case rel => exact ⟨3, by omega, by go_num, rfl⟩
      case rel => exact ⟨4, by omega, by go_num, by rw [show (n : Int) / 16777216 = ((n / 16777216 % 256 : Nat) : Int) by omega]; rfl⟩
      all_goals (simp [intOf])
    · obtain rfl : k = 4 := by omega
      have HS := sl_all ⟨w1.heap.size, 0, none⟩
      have HC := conv_four n w1
      go_wp2
      go_ret
      exact ⟨by rw [← HN.out]; rfl, hb.alloc hb.size _⟩

/-- The frame of a body. -/
def numS (n : Nat) : ByteArray := ⟨(Vm.put n).toArray⟩
def frameS (b : ByteArray) : ByteArray := numS b.size ++ b ++ footS (Fm.sum (nats (numS b.size ++ b)))
theorem numS_size (n : Nat) : (numS n).size = (Vm.put n).length := by simp [numS, ByteArray.size]
theorem footS_size (n : Nat) : (footS n).size = 4 := rfl
theorem nats_append (a b : ByteArray) : nats (a ++ b) = nats a ++ nats b := by simp [nats, ByteArray.data_append]
theorem natsAll_two (a b : ByteArray) : natsAll [a, b] = nats (a ++ b) := by
  rw [natsAll, List.flatMap_cons, List.flatMap_cons, List.flatMap_nil, List.append_nil, nats_append]
theorem put_n (n : Nat) (hn : n < 18446744073709551616) (w : World) :
    Calls Tryd.prog 25 #[.int .u64 n] w fun e w' => e = .returned (.string (numS n)) ∧ Below w.heap.size w w' := put_any n hn w

set_option maxRecDepth 100000 in
theorem wrap_large (b : ByteArray) (h1 : 16777216 < b.size + (numS b.size).size + 4) (h2 : b.size ≤ 1099511627776) (w : World) :
    Calls Tryd.prog 15 #[.string b] w fun e w' => e = .returned (.tuple #[.string ⟨#[]⟩, .int .i64 40]) ∧ Below w.heap.size w w' := by
  have hl := Vm.put_len b.size
  have hz := numS_size b.size
  have hz1 : 1 ≤ (numS b.size).size := by omega
  have hz2 : (numS b.size).size ≤ 10 := by omega
  clear hz hl
  go_enter Tryd.func15, Tryd.ntmps15
  go_wp2_with fail
  refine (put_n b.size (by omega) w).mono ?_
  rintro e w1 ⟨rfl, b1⟩
  go_wp2_with fail
  go_ret2
  exact ⟨rfl, b1⟩
set_option maxRecDepth 100000 in
theorem wrap_any (b : ByteArray) (h1 : b.size + (numS b.size).size + 4 ≤ 16777216) (w : World) :
    Calls Tryd.prog 15 #[.string b] w fun e w' => e = .returned (.tuple #[.string (frameS b), .int .i64 0]) ∧ Below w.heap.size w w' := by
  have hl := Vm.put_len b.size
  have hz := numS_size b.size
  have hz1 : 1 ≤ (numS b.size).size := by omega
  have hz2 : (numS b.size).size ≤ 10 := by omega
  clear hz hl
  go_enter Tryd.func15, Tryd.ntmps15
  go_wp2_with fail
  refine (put_n b.size (by omega) w).mono ?_
  rintro e w1 ⟨rfl, b1⟩
  go_wp2_with fail
  have hL : ∀ j (h : j < [numS b.size, b].length), (w1.alloc (.cells #[.string (numS b.size), .string b] 9)).cell? ⟨w1.heap.size, j, none⟩ = some (.string [numS b.size, b][j]) := by
    intro j hj
    rcases (by simp at hj; omega : j = 0 ∨ j = 1) with rfl | rfl
    · rw [cell_new]; rfl
    · rw [cell_new]; rfl
  refine (end_in w1.heap.size 2 [numS b.size, b] _ (by simp) (by simp) hL (by intro s hs; simp at hs; rcases hs with rfl | rfl <;> omega)).mono ?_
  rintro e w2 ⟨rfl, b2⟩
  rw [natsAll_two]
  have b3 := below_new b2
  have hf := footS_size (Fm.sum (nats (numS b.size ++ b)))
  have ha : (numS b.size ++ b).size ≤ 16777212 := by rw [ByteArray.size_append]; omega
  clear hL b2
  go_wp2_with fail
  go_ret2
  exact ⟨rfl, b1.trans (b3.mono b1.size)⟩
end Go.Proofs.YtpgkhodofhnpnaaDoor
