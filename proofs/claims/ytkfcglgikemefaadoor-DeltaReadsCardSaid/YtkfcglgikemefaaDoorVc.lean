/-
  CONTRACTS OF LAYER 1's FUNCTIONS Get and Put (package varint): what each call answers, in plain numbers and lists of bytes, whatever the memory; the memory that was there stays as it was. Conditions: integers within their kinds, texts shorter than 2^63 bytes.
-/
import Derived.Test.YtkfcglgikemefaaDoorRows
import Derived.Test.YtkfcglgikemefaaDoorVm
import Derived.Handy
import Derived.PlainAid
import Derived.LoopTactic
import Derived.Laws.IdiomStrings
import Derived.WalkLawsBesides
import Derived.WalkSpells
namespace Go.Proofs.YtkfcglgikemefaaDoor
set_option maxRecDepth 100000
open Go.RowKit
set_option linter.unusedVariables false
theorem ret3 {a b c a' b' c' : Int} {k1 k2 k3 : IntKind} (h1 : a = a') (h2 : b = b') (h3 : c = c') : Ending.returned (.tuple #[.int k1 a, .int k2 b, .int k3 c]) = Ending.returned (.tuple #[.int k1 a', .int k2 b', .int k3 c']) := by rw [h1, h2, h3]

def bytes (s : ByteArray) : List UInt8 := s.data.toList
set_option maxRecDepth 100000 in
theorem get_any (s : ByteArray) (hs : s.size ≤ 9223372036854775807) (w : World) :
    Calls Tryd.prog 72 #[.string s] w fun e w' => e = .returned (.tuple #[.int .u64 (Vm.get (bytes s)).1, .int .i64 (Vm.get (bytes s)).2.1, .int .i64 (Vm.get (bytes s)).2.2]) ∧ w = w' := by
  go_enter Tryd.func72, Tryd.ntmps72
  go_wp2
  go_loop [2, 9] (fun n i => ∃ k acc : Nat, k ≤ s.size ∧ k ≤ 9 ∧ Hid (acc < 128 ^ k) ∧ i = .int .i64 k ∧ n = .int .u64 acc ∧ Hid (Vm.get (bytes s) = Vm.getF ((bytes s).drop k) k acc)) (fun _ i => s.size - (intOf i).toNat)
  case atStart => exact ⟨0, 0, by omega, by omega, by exact (by simp : 0 < 128 ^ 0), rfl, rfl, by exact (rfl : Vm.get (bytes s) = _)⟩
  case round =>
    obtain ⟨k, acc, hk, hk9, hacc, rfl, rfl, hd⟩ := hrel
    by_cases hlt : k < s.size
    · go_wp2
      · -- the tenth byte is above 1
        have h9 : (k : Int) = 9 := by assumption
        have hb : 1 < (s[k].toNat : Int) := by assumption
        have hv : Vm.get (bytes s) = (0, 0, 20) := by rw [hd.out, bytes, Vm.drop_cons s k hlt, Vm.g_range (by omega) (by omega)]
        go_ret3
        exact ⟨ret3 (by rw [hv]; rfl) (by rw [hv]; rfl) (by rw [hv]; rfl), rfl⟩
      · -- the last byte is 0, and the tenth
        have h9 : (k : Int) = 9 := by assumption
        have hb : s[k].toNat = 0 := by assumption
        have hv : Vm.get (bytes s) = (0, 0, 11) := by rw [hd.out, bytes, Vm.drop_cons s k hlt, Vm.g_wide (by omega) hb]
        go_ret3
        exact ⟨ret3 (by rw [hv]; rfl) (by rw [hv]; rfl) (by rw [hv]; rfl), rfl⟩
      · -- the tenth byte is 1
        have h9 : (k : Int) = 9 := by assumption
        have hb1 : (s[k].toNat : Int) ≤ 1 := by assumption
        have hb2 : (s[k].toNat : Int) < 128 := by assumption
        have hb0 : ¬ s[k].toNat = 0 := by assumption
        have hv : Vm.get (bytes s) = (acc + s[k].toNat % 128 * 128 ^ k, k + 1, 0) := by rw [hd.out, bytes, Vm.drop_cons s k hlt, Vm.g_end (by omega) (by omega) (by omega)]
        have hj := (Vm.join_step k acc s[k].toNat s[k].toNat_lt hk9 hacc.out (by omega) 9223372036854775808 (by rw [show k = 9 by omega]; rfl)).1
        go_ret3
        exact ⟨ret3 (by rw [hv]; exact hj) (by rw [hv]; show (10 : Int) = ((k + 1 : Nat) : Int); omega) (by rw [hv]; rfl), rfl⟩
      · -- a byte that goes on
        have h9 : ¬ (k : Int) = 9 := by assumption
        have hb : 128 ≤ (s[k].toNat : Int) := by assumption
        have hj := Vm.join_step k acc s[k].toNat s[k].toNat_lt hk9 hacc.out (by omega) (2 ^ (7 * k)) rfl
        have hv : Vm.get (bytes s) = Vm.getF ((bytes s).drop (k + 1)) (k + 1) (acc + s[k].toNat % 128 * 128 ^ k) := by rw [hd.out, bytes, Vm.drop_cons s k hlt, Vm.g_more (by omega) (by omega)]
        go_round
        case rel => exact ⟨k + 1, acc + s[k].toNat % 128 * 128 ^ k, by omega, by omega, hj.2 (by omega), by go_num, by rw [hj.1], hv⟩
        case measure => simp [intOf]; omega
      · -- the last byte is 0, and not the first
        have hb : s[k].toNat = 0 := by assumption
        have hk0 : 0 < k := by assumption
        have hv : Vm.get (bytes s) = (0, 0, 11) := by rw [hd.out, bytes, Vm.drop_cons s k hlt, Vm.g_wide (by omega) hb]
        go_ret3
        exact ⟨ret3 (by rw [hv]; rfl) (by rw [hv]; rfl) (by rw [hv]; rfl), rfl⟩
      · -- the first byte is 0
        have hb : s[k].toNat = 0 := by assumption
        have hk0 : ¬ 0 < k := by assumption
        have hv : Vm.get (bytes s) = (acc + s[k].toNat % 128 * 128 ^ k, k + 1, 0) := by rw [hd.out, bytes, Vm.drop_cons s k hlt, Vm.g_end (by omega) (by omega) (by omega)]
        have hj := (Vm.join_step k acc s[k].toNat s[k].toNat_lt hk9 hacc.out (by omega) (2 ^ (7 * k)) rfl).1
        rw [hb] at hj
        go_ret3
        exact ⟨ret3 (by rw [hv, hb]; exact hj) (by rw [hv]; rfl) (by rw [hv]; rfl), rfl⟩
      · -- the last byte
        have h9 : ¬ (k : Int) = 9 := by assumption
        have hb2 : (s[k].toNat : Int) < 128 := by assumption
        have hb0 : ¬ s[k].toNat = 0 := by assumption
        have hv : Vm.get (bytes s) = (acc + s[k].toNat % 128 * 128 ^ k, k + 1, 0) := by rw [hd.out, bytes, Vm.drop_cons s k hlt, Vm.g_end (by omega) (by omega) (by omega)]
        have hj := (Vm.join_step k acc s[k].toNat s[k].toNat_lt hk9 hacc.out (by omega) (2 ^ (7 * k)) rfl).1
        go_ret3
        exact ⟨ret3 (by rw [hv]; exact hj) (by rw [hv]; rfl) (by rw [hv]; rfl), rfl⟩
    · go_wp2
      have hv : Vm.get (bytes s) = (0, 0, 8) := by rw [hd.out, bytes, Vm.drop_end s k (by omega)]; rfl
      go_ret3
      exact ⟨ret3 (by rw [hv]; rfl) (by rw [hv]; rfl) (by rw [hv]; rfl), rfl⟩
/-- The ten cells of the array: the bytes so far, zeros behind. -/
def cellsOf (pre : List UInt8) : Array Value := (pre.map (fun b => Value.int .u8 b.toNat) ++ List.replicate (10 - pre.length) (Value.int .u8 0)).toArray
theorem cells_set (pre : List UInt8) (b : UInt8) (h : pre.length < 10) (x : Value) (hx : x = .int .u8 b.toNat) : (cellsOf pre).setIfInBounds pre.length x = cellsOf (pre ++ [b]) := by
  subst hx
  have e : 10 - pre.length = (10 - (pre.length + 1)) + 1 := by omega
  unfold cellsOf
  rw [List.setIfInBounds_toArray]
  congr 1
  rw [e, List.replicate_succ, List.set_append_right _ _ (by simp)]
  simp
theorem cells_size (pre : List UInt8) (h : pre.length ≤ 10) : (cellsOf pre).size = 10 := by
  simp [cellsOf]; omega
theorem cells_get (pre : List UInt8) (j : Nat) (hj : j < pre.length) : (cellsOf pre)[j]? = some (.int .u8 (pre[j].toNat : Int)) := by
  simp [cellsOf, List.getElem?_append, hj]
theorem set_get (C : Array Value) (k : Nat) (h : k < C.size) (x : Value) : (C.setIfInBounds k x)[k]? = some x := by
  simp [h]
theorem cell_new (w : World) (C : Array Value) (t : TypeId) (j : Nat) : (w.alloc (.cells C t)).cell? ⟨w.heap.size, j, none⟩ = C[j]? := World.cell?_alloc_mark w C t (0, 0) j

theorem arr_under : Tryd.prog.underlying 130 = some (.array (Tryd.prog.arrayLen 130) (Tryd.prog.elem 130)) := by kernel_rfl
theorem arr_len : Tryd.prog.arrayLen 130 = 10 := by kernel_rfl
theorem arr_elem (w : World) : (Go.sizeOf (Tryd.prog.elem 130)).run Tryd.prog w = .ok 1 w := by kernel_rfl
theorem u_bytes : Tryd.prog.underlying 83 = some (.slice 5) := by kernel_rfl
theorem u_byte : Tryd.prog.underlying 5 = some (.int .u8) := by kernel_rfl
theorem u_string : Tryd.prog.underlying 9 = some .string := by kernel_rfl
theorem sl_at (a : Addr) (k : Nat) (h : k + 1 ≤ 10) (wx : World) :
    (Instr.sliceAt 130 (.pointer (some a)) none (some (.int .i64 ((k : Int) + 1))) none).run Tryd.prog wx = .ok (.slice (some a) (k + 1) 10) wx := by
  rw [run_sliceAt_array_h wx _ a arr_under .i64 ((k : Int) + 1) (by omega) (by rw [arr_len]; omega), arr_elem, arr_len]
  simp [Result.andThen, slicedAt, Addr.add]

set_option maxRecDepth 100000 in
theorem put_any (n : Nat) (hn : n < 18446744073709551616) (w : World) :
    Calls Tryd.prog 33 #[.int .u64 n] w fun e w' => e = .returned (.string ⟨(Vm.put n).toArray⟩) ∧ Below w.heap.size w w' := by
  go_enter Tryd.func33, Tryd.ntmps33
  go_wp2
  go_step3
  go_wp2
  go_step3
  go_wp2
  go_loopw [0, 4, 6] (fun a s i wr => ∃ (k m : Nat) (pre : List UInt8), k ≤ 9 ∧ Hid (pre.length = k) ∧ m < 18446744073709551616 ∧ a = .int .u64 m ∧ s = .int .i64 k ∧ i = .int .i64 k ∧ Hid (m * 128 ^ k < 18446744073709551616) ∧ Hid (Vm.putF 10 n = pre ++ Vm.putF (10 - k) m) ∧ wr = w.alloc (.cells (cellsOf pre) 130)) (fun _ _ i _ => 10 - (intOf i).toNat)
  case atStart => exact ⟨0, n, [], by omega, rfl, hn, rfl, rfl, rfl, by exact (by simpa using hn : n * 128 ^ 0 < _), rfl, rfl⟩
  case round =>
    obtain ⟨k, m, pre, hk, hl, hm, rfl, rfl, rfl, hmk, hp, rfl⟩ := hrel
    have hC := cells_size pre (by have := hl.out; omega)
    have hand : bits .and .u64 (m : Int) 127 = (m : Int) % 128 := Vm.and_127 m (by omega) (by omega)
    have H1 : ∀ x : Int, x = (m : Int) % 128 → Hid ((cellsOf pre).setIfInBounds k (.int .u8 x) = cellsOf (pre ++ [UInt8.ofNat (m % 128)])) := fun x hx => by
      show _ = _
      obtain rfl := hl.out
      exact cells_set pre _ (by omega) _ (by rw [Vm.low_toNat _ (by omega), hx]; rfl)
    have H2 : ∀ x : Int, x = (m : Int) % 128 + 128 → Hid ((cellsOf pre).setIfInBounds k (.int .u8 x) = cellsOf (pre ++ [UInt8.ofNat (m % 128 + 128)])) := fun x hx => by
      show _ = _
      obtain rfl := hl.out
      exact cells_set pre _ (by omega) _ (by rw [Vm.high_toNat, hx]; rfl)
    have hg : ∀ x, ((cellsOf pre).setIfInBounds k x)[k]? = some x := fun x => set_get _ _ (by omega) x
    obtain ⟨v, hv⟩ : ∃ v, (w.alloc (.cells (cellsOf pre) 130)).cell? ⟨w.heap.size, k, none⟩ = some v := by
      rw [cell_new, Array.getElem?_eq_getElem (by omega)]
      exact ⟨_, rfl⟩
    have hf : (w.alloc (.cells (cellsOf pre) 130)).frozen? ⟨w.heap.size, k, none⟩ = false := by
      simp [go_sem]
    have HC : Hid ((cellsOf pre).size = 10) := hC
    clear hC
    by_cases hlt : m < 128
    · have ht : ((m : Int) / 128 == 0) = true := by simp; omega
      have E1 : Hid (bits .and .u64 (m : Int) 127 % 256 = (m : Int) % 128) := by show _ = _; rw [hand]; omega
      have HS := sl_at ⟨w.heap.size, 0, none⟩ k (by omega)
      have hput : Hid (Vm.put n = pre ++ [UInt8.ofNat (m % 128)]) := by
        show Vm.putF 10 n = _
        rw [hp.out, show 10 - k = (9 - k) + 1 by omega, Vm.putF, if_pos hlt, Nat.mod_eq_of_lt hlt]
      have hcv : (convert 83 9 (.slice (some ⟨w.heap.size, 0, none⟩) (k + 1) 10)).run Tryd.prog (w.alloc (.cells ((cellsOf pre).setIfInBounds k (.int .u8 (bits .and .u64 (m : Int) 127 % 256))) 130)) = .ok (.string ⟨(Vm.put n).toArray⟩) (w.alloc (.cells ((cellsOf pre).setIfInBounds k (.int .u8 (bits .and .u64 (m : Int) 127 % 256))) 130)) := by
        rw [hput.out, (H1 _ E1.out).out]
        have := run_convert_bytes_back (P := Tryd.prog) (w.alloc (.cells (cellsOf (pre ++ [UInt8.ofNat (m % 128)])) 130)) 83 9 5 ⟨w.heap.size, 0, none⟩ 10 (pre ++ [UInt8.ofNat (m % 128)]) u_bytes u_byte u_string (fun j hj => by
          have e : (⟨w.heap.size, 0, none⟩ : Addr).add j = ⟨w.heap.size, j, none⟩ := by unfold Addr.add; split <;> simp_all
          rw [e, cell_new, cells_get _ j hj])
        rw [List.length_append, hl.out] at this
        exact this
      clear hand H1 H2 hput
      go_wp2
      rw [Exit.noGoto_ret]
      go_ret
      exact ⟨rfl, by go_grown⟩
    · have ht : ((m : Int) / 128 == 0) = false := by simp; omega
      have E1 : Hid (bits .or .u8 (bits .and .u64 (m : Int) 127 % 256) 128 = (m : Int) % 128 + 128) := by
        show _ = _
        rw [hand, show (m : Int) % 128 % 256 = (m : Int) % 128 by omega]
        exact Vm.or_128_u8 _ (by omega) (by omega)
      have HH := (H2 _ E1.out)
      have hk9 : k ≠ 9 := by intro e; have := Vm.nine_of e hmk.out; omega
      clear hand H1 H2
      go_wp2
      go_roundw
      case rel =>
        refine ⟨k + 1, m / 128, pre ++ [UInt8.ofNat (m % 128 + 128)], by omega, ?_, by omega, by go_num, by go_num, by go_num, ?_, ?_, ?_⟩
        · show _ = _; rw [List.length_append, hl.out]; rfl
        · have h1 := hmk.out
          have h2 := Vm.split_mul m (128 ^ k)
          show _ < _
          rw [Vm.pow_succ']
          omega
        · show _ = _
          rw [hp.out, show 10 - k = (10 - (k + 1)) + 1 by omega, Vm.putF, if_neg hlt, List.append_assoc]
          rfl
        · rw [HH.out]
      case measure => simp [intOf]; omega
end Go.Proofs.YtkfcglgikemefaaDoor
