/-
  CONTRACTS OF THE STATEMENTS' OWN HELPERS OF LAYER 1 (many, gets, works): 'works' returns true; what was in memory stays as it was. No condition.
-/
import Derived.Test.YtdhmehciebgblaaVc
namespace Go.Proofs.Ytdhmehciebgblaa
open Go.RowKit
set_option linter.unusedVariables false
def rep (k : Nat) (b : UInt8) : ByteArray := ⟨(List.replicate k b).toArray⟩

theorem rep_succ (k : Nat) (b : UInt8) : rep k b ++ ⟨#[b]⟩ = rep (k + 1) b := by
  apply ByteArray.ext
  apply Array.toList_inj.1
  simp [rep, List.replicate_succ', ByteArray.data_append]

theorem many_any (n : Nat) (b : UInt8) (hn : n ≤ 1000) (w : World) :
    Calls Try.prog 8 #[.int .i64 n, .string ⟨#[b]⟩] w fun e w' => e = .returned (.string (rep n b)) ∧ w = w' := by
  go_enter Try.func8, Try.ntmps8
  go_wp2
  go_loop [5, 6] (fun o i => ∃ k : Nat, k ≤ n ∧ i = .int .i64 k ∧ o = .string (rep k b)) (fun _ i => n - (intOf i).toNat)
  case atStart => exact ⟨0, by omega, rfl, rfl⟩
  case round =>
    obtain ⟨k, hk, rfl, rfl⟩ := hrel
    have HR : Hid (rep k b ++ ⟨#[b]⟩ = rep (k + 1) b) := rep_succ k b
    by_cases hlt : k < n
    · have hsz : (rep k b).size = k := by simp [rep, ByteArray.size]
      go_wp2
      go_round
      case rel => exact ⟨k + 1, by omega, by go_num, by rw [HR.out]⟩
      case measure => simp [intOf]; omega
    · go_wp2
      go_ret
      have : k = n := by omega
      subst this
      exact ⟨rfl, rfl⟩

/-- gets: the answer is the one that is asked about. -/
theorem gets_yes (s : ByteArray) (n size e : Int) (hs : s.size ≤ 9223372036854775807) (h : ((Vm.get (bytes s)).1 : Int) = n ∧ ((Vm.get (bytes s)).2.1 : Int) = size ∧ ((Vm.get (bytes s)).2.2 : Int) = e) (w : World) :
    Calls Try.prog 11 #[.string s, .int .u64 n, .int .i64 size, .int .i64 e] w fun e w' => e = .returned (.bool true) ∧ w = w' := by
  obtain ⟨rfl, rfl, rfl⟩ := h
  go_enter Try.func11, Try.ntmps11
  go_wp2_with (go_at_call 14; refine (get_any s hs _).mono ?_; rintro e w' ⟨rfl, rfl⟩)
  go_ret
  exact ⟨by simp, rfl⟩

/-- Put of a number that is written out. -/
theorem put_c (x : Int) (l : Array UInt8) (h : (decide (0 ≤ x ∧ x < 18446744073709551616) && Vm.put x.toNat == l.toList) = true) (w : World) :
    Calls Try.prog 10 #[.int .u64 x] w fun e w' => e = .returned (.string ⟨l⟩) ∧ Below w.heap.size w w' := by
  simp only [Bool.and_eq_true, decide_eq_true_eq, beq_iff_eq] at h
  obtain ⟨⟨h0, h1⟩, h2⟩ := h
  obtain ⟨n, rfl⟩ := Int.eq_ofNat_of_zero_le h0
  refine (put_any n (by omega) w).mono fun e w' ⟨he, hb⟩ => ⟨?_, hb⟩
  rw [he]
  simp only [Int.toNat_natCast] at h2
  rw [h2]
theorem gets_c (l : Array UInt8) (n size e : Int) (h : (decide (l.size ≤ 1000) && (decide (((Vm.get l.toList).1 : Int) = n) && (decide (((Vm.get l.toList).2.1 : Int) = size) && decide (((Vm.get l.toList).2.2 : Int) = e)))) = true) (w : World) :
    Calls Try.prog 11 #[.string ⟨l⟩, .int .u64 n, .int .i64 size, .int .i64 e] w fun e w' => e = .returned (.bool true) ∧ w = w' := by
  simp only [Bool.and_eq_true, decide_eq_true_eq] at h
  have h1 := h.1
  exact gets_yes ⟨l⟩ n size e (by show l.size ≤ _; omega) h.2 w
theorem many_c (x : Int) (b : UInt8) (l : Array UInt8) (h : (decide (0 ≤ x ∧ x ≤ 1000) && List.replicate x.toNat b == l.toList) = true) (w : World) :
    Calls Try.prog 8 #[.int .i64 x, .string ⟨#[b]⟩] w fun e w' => e = .returned (.string ⟨l⟩) ∧ w = w' := by
  simp only [Bool.and_eq_true, decide_eq_true_eq, beq_iff_eq] at h
  obtain ⟨⟨h0, h1⟩, h2⟩ := h
  obtain ⟨n, rfl⟩ := Int.eq_ofNat_of_zero_le h0
  refine (many_any n b (by omega) w).mono fun e w' ⟨he, hb⟩ => ⟨?_, hb⟩
  rw [he]
  simp only [Int.toNat_natCast] at h2
  simp [rep, h2]
theorem zig_c (x y : Int) (h : (decide (-9223372036854775808 ≤ x ∧ x < 9223372036854775808) && decide ((if x < 0 then -2 * x - 1 else 2 * x) = y)) = true) (w : World) :
    Calls Try.prog 12 #[.int .i64 x] w fun e w' => e = .returned (.int .u64 y) ∧ w = w' := by
  simp only [Bool.and_eq_true, decide_eq_true_eq] at h
  rw [← h.2]
  exact zig_any x h.1.1 h.1.2 w

theorem put_0 (w : World) : Calls Try.prog 10 #[.int .u64 0] w fun e w' => e = .returned (.string ⟨#[0]⟩) ∧ Below w.heap.size w w' := put_c 0 #[0] (by kernel_rfl) w
theorem put_127 (w : World) : Calls Try.prog 10 #[.int .u64 127] w fun e w' => e = .returned (.string ⟨#[127]⟩) ∧ Below w.heap.size w w' := put_c 127 #[127] (by kernel_rfl) w
theorem put_128 (w : World) : Calls Try.prog 10 #[.int .u64 128] w fun e w' => e = .returned (.string ⟨#[128, 1]⟩) ∧ Below w.heap.size w w' := put_c 128 #[128, 1] (by kernel_rfl) w
theorem put_300 (w : World) : Calls Try.prog 10 #[.int .u64 300] w fun e w' => e = .returned (.string ⟨#[172, 2]⟩) ∧ Below w.heap.size w w' := put_c 300 #[172, 2] (by kernel_rfl) w
theorem gets_wide (w : World) : Calls Try.prog 11 #[.string ⟨#[128, 0]⟩, .int .u64 0, .int .i64 0, .int .i64 11] w fun e w' => e = .returned (.bool true) ∧ w = w' := gets_c #[128, 0] 0 0 11 (by kernel_rfl) w
theorem gets_short (w : World) : Calls Try.prog 11 #[.string ⟨#[128]⟩, .int .u64 0, .int .i64 0, .int .i64 8] w fun e w' => e = .returned (.bool true) ∧ w = w' := gets_c #[128] 0 0 8 (by kernel_rfl) w
theorem many_eleven (w : World) : Calls Try.prog 8 #[.int .i64 11, .string ⟨#[128]⟩] w fun e w' => e = .returned (.string ⟨#[128, 128, 128, 128, 128, 128, 128, 128, 128, 128, 128]⟩) ∧ w = w' := many_c 11 128 #[128, 128, 128, 128, 128, 128, 128, 128, 128, 128, 128] (by kernel_rfl) w
theorem gets_range (w : World) : Calls Try.prog 11 #[.string ⟨#[128, 128, 128, 128, 128, 128, 128, 128, 128, 128, 128]⟩, .int .u64 0, .int .i64 0, .int .i64 20] w fun e w' => e = .returned (.bool true) ∧ w = w' := gets_c #[128, 128, 128, 128, 128, 128, 128, 128, 128, 128, 128] 0 0 20 (by kernel_rfl) w
theorem zig_0 (w : World) : Calls Try.prog 12 #[.int .i64 (0)] w fun e w' => e = .returned (.int .u64 0) ∧ w = w' := zig_c (0) 0 (by kernel_rfl) w
theorem zig_m1 (w : World) : Calls Try.prog 12 #[.int .i64 (-1)] w fun e w' => e = .returned (.int .u64 1) ∧ w = w' := zig_c (-1) 1 (by kernel_rfl) w
theorem zig_1 (w : World) : Calls Try.prog 12 #[.int .i64 (1)] w fun e w' => e = .returned (.int .u64 2) ∧ w = w' := zig_c (1) 2 (by kernel_rfl) w
theorem zig_m2 (w : World) : Calls Try.prog 12 #[.int .i64 (-2)] w fun e w' => e = .returned (.int .u64 3) ∧ w = w' := zig_c (-2) 3 (by kernel_rfl) w

set_option maxRecDepth 100000 in
theorem works_any (w : World) : Calls Try.prog 9 #[] w fun e w' => e = .returned (.bool true) ∧ Below w.heap.size w w' := by
  go_enter Try.func9, Try.ntmps9
  go_wp2_with fail
  refine (put_0 _).mono ?_
  rintro e w1 ⟨rfl, b1⟩
  go_wp2_with fail
  refine (put_127 _).mono ?_
  rintro e w2 ⟨rfl, b2⟩
  go_wp2_with fail
  refine (put_128 _).mono ?_
  rintro e w3 ⟨rfl, b3⟩
  go_wp2_with fail
  refine (put_300 _).mono ?_
  rintro e w4 ⟨rfl, b4⟩
  go_wp2_with fail
  refine (gets_wide _).mono ?_
  rintro e w' ⟨rfl, rfl⟩
  go_wp2_with fail
  refine (gets_short _).mono ?_
  rintro e w' ⟨rfl, rfl⟩
  go_wp2_with fail
  refine (many_eleven _).mono ?_
  rintro e w' ⟨rfl, rfl⟩
  go_wp2_with fail
  refine (gets_range _).mono ?_
  rintro e w' ⟨rfl, rfl⟩
  go_wp2_with fail
  refine (zig_0 _).mono ?_
  rintro e w' ⟨rfl, rfl⟩
  go_wp2_with fail
  refine (zig_m1 _).mono ?_
  rintro e w' ⟨rfl, rfl⟩
  go_wp2_with fail
  refine (zig_1 _).mono ?_
  rintro e w' ⟨rfl, rfl⟩
  go_wp2_with fail
  refine (zig_m2 _).mono ?_
  rintro e w' ⟨rfl, rfl⟩
  go_wp2_with fail
  go_ret
  exact ⟨rfl, b1.trans ((b2.mono b1.size).trans ((b3.mono (Nat.le_trans b1.size b2.size)).trans (b4.mono (Nat.le_trans b1.size (Nat.le_trans b2.size b3.size)))))⟩
theorem ret_bool {b : Bool} (h : b = true) : Ending.returned (.bool b) = Ending.returned (.bool true) := by rw [h]
/-- The text of a number. -/
def putS (n : Nat) : ByteArray := ⟨(Vm.put n).toArray⟩
theorem putS_size (n : Nat) : (putS n).size = (Vm.put n).length := by simp [putS, ByteArray.size]
theorem put_s (n : Nat) (hn : n < 18446744073709551616) (w : World) :
    Calls Try.prog 10 #[.int .u64 n] w fun e w' => e = .returned (.string (putS n)) ∧ Below w.heap.size w w' := put_any n hn w
theorem putS_list (n : Nat) : (putS n).toList = Vm.put n := by rw [ByteArray.toList_eq]; simp [putS]
end Go.Proofs.Ytdhmehciebgblaa
