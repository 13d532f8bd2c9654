/-
  CONTRACTS OF seesawref03 (the document's own answers of layer 3): Sum, Seal, Wrap, Unwrap: what each answers, in the same words as the contracts of package frame. Conditions: texts shorter than 2^48 bytes.
-/
import Derived.Test.YtianpbgnfdkpmaaFe
import Derived.Outline
import Derived.Deep.RegionHeld3
import Derived.Deep.RegionWith
import Derived.Deep.DeepCutAuto
import Derived.Deep.CutBlock
namespace Go.Proofs.Ytianpbgnfdkpmaa
open Go.ChangeShapes Go.WideShapes Go.ChangeAt Go.RowKit Go.ChangeMaps
set_option linter.unusedVariables false

theorem turned (r : Nat) (hr : r < 4294967296) : 4294967295 ^^^ r = 4294967295 - r := by
  have h : (BitVec.allOnes 32 ^^^ BitVec.ofNat 32 r).toNat = 4294967295 - r := by
    rw [BitVec.allOnes_xor, BitVec.toNat_not, BitVec.toNat_ofNat, Nat.mod_eq_of_lt (by omega)]
  rw [BitVec.toNat_xor, BitVec.toNat_allOnes, BitVec.toNat_ofNat, Nat.mod_eq_of_lt (by omega)] at h
  exact h

set_option maxRecDepth 100000 in
theorem rSum_any (s : ByteArray) (hs : s.size ≤ 9223372036854775807) (w : World) :
    Calls Try.prog 14 #[.string s] w fun e w' => e = .returned (.int .u32 (Fm.sum (nats s) : Nat)) ∧ w = w' := by
  go_enter Try.func14, Try.ntmps14
  go_wp2
  go_loop [3, 4] (fun a i => ∃ k r : Nat, k ≤ s.size ∧ r < 4294967296 ∧ i = .int .i64 k ∧ a = .int .u32 r ∧ Hid (Fm.reg r ((nats s).drop k) = Fm.reg 4294967295 (nats s))) (fun _ i => s.size - (intOf i).toNat)
  case atStart => exact ⟨0, 4294967295, by omega, by omega, rfl, rfl, rfl⟩
  case round =>
    obtain ⟨k, r, hk, hr, rfl, rfl, hs1⟩ := hrel
    by_cases hlt : k < s.size
    · have hx : bits .xor .u32 (r : Int) (s[k].toNat : Int) = ((r ^^^ s[k].toNat : Nat) : Int) := u32_xor_nat r _ hr (by have := s[k].toNat_lt; omega)
      have hxl : r ^^^ s[k].toNat < 4294967296 := Nat.xor_lt_two_pow (n := 32) hr (by have := s[k].toNat_lt; omega)
      obtain ⟨x, hxe⟩ : ∃ x, x = r ^^^ s[k].toNat := ⟨_, rfl⟩
      rw [← hxe] at hx hxl
      have HX := Lib.hid hxe
      clear hxe
      have hb0 : (s[k].toNat : Int) < 256 := by have := s[k].toNat_lt; omega
      go_wp2
      clear hx
      go_loop [3, 5] (fun a i => ∃ m q : Nat, m ≤ 8 ∧ q < 4294967296 ∧ i = .int .i64 m ∧ a = .int .u32 q ∧ Hid (Fm.stN (8 - m) q = Fm.stN 8 x)) (fun _ i => 8 - (intOf i).toNat)
      case atStart => exact ⟨0, x, by omega, hxl, rfl, rfl, rfl⟩
      case round =>
        obtain ⟨m, q, hm, hq, rfl, rfl, hs2⟩ := hrel
        by_cases hlm : m < 8
        · have hsl := Fm.st_lt hq
          have Hm : Hid (Fm.stN (8 - (m + 1)) (Fm.st q) = Fm.stN 8 x) := by
            show _ = _
            rw [← hs2.out, show 8 - m = (8 - (m + 1)) + 1 by omega]
            rfl
          by_cases hodd : q % 2 = 1
          · have e1 : ((q : Int) % 2 == 1) = true := by simp; omega
            have e2 : bits .xor .u32 ((q : Int) / 2) 3988292384 = ((Fm.st q : Nat) : Int) := by
              unfold Fm.st
              rw [if_pos hodd, show (q : Int) / 2 = ((q / 2 : Nat) : Int) by omega]
              exact u32_xor_nat _ 3988292384 (by omega) (by decide)
            clear hodd
            go_wp2
            go_round
            case rel => exact ⟨m + 1, Fm.st q, by omega, hsl, by go_num, rfl, Hm⟩
            case measure => simp [intOf]; omega
          · have e1 : ((q : Int) % 2 == 1) = false := by simp; omega
            have e2 : (q : Int) / 2 = ((Fm.st q : Nat) : Int) := by
              unfold Fm.st
              rw [if_neg hodd]
              omega
            have E2 := Lib.hid e2
            clear hodd e2
            go_wp2
            go_round
            case rel => exact ⟨m + 1, Fm.st q, by omega, hsl, by go_num, by rw [E2.out], Hm⟩
            case measure => simp [intOf]; omega
        · have hqx : q = Fm.stN 8 x := by
            have e := hs2.out
            rw [show 8 - m = 0 by omega] at e
            exact e
          have HQ := Lib.hid hqx
          clear hqx
          go_wp2
          go_round
          case rel =>
            refine ⟨k + 1, q, by omega, hq, by go_num, rfl, ?_⟩
            have e := hs1.out
            rw [nats_drop s k hlt, Fm.reg_cons, Fm.upd, ← HX.out, ← HQ.out] at e
            exact e
          case measure => simp [intOf]; omega
    · have hr1 : r = Fm.reg 4294967295 (nats s) := by
        have e := hs1.out
        rw [List.drop_eq_nil_of_le (by rw [nats_length]; omega)] at e
        exact e
      have Hr := Lib.hid hr1
      clear hr1
      go_wp2
      go_ret
      refine ⟨?_, rfl⟩
      show Ending.returned (.int .u32 (4294967295 - (r : Int))) = _
      rw [Fm.sum, ← Hr.out, turned r hr]
      rw [show (4294967295 : Int) - (r : Int) = ((4294967295 - r : Nat) : Int) by omega]

set_option maxRecDepth 100000 in
theorem Seal_any (n : Nat) (hn : n < 4294967296) (w : World) :
    Calls Try.prog 21 #[.int .u32 n] w fun e w' => e = .returned (.string (footS n)) ∧ Below w.heap.size w w' := by
  go_enter Try.func21, Try.ntmps21
  have HC : (convert 27 9 (.slice (some ⟨w.heap.size, 0, none⟩) 4 4)).run Try.prog (w.alloc (.cells #[.int .u8 ((n : Int) % 256), .int .u8 ((n : Int) / 256 % 256), .int .u8 ((n : Int) / 65536 % 256), .int .u8 ((n : Int) / 16777216)] 5)) = .ok (.string (footS n)) (w.alloc (.cells #[.int .u8 ((n : Int) % 256), .int .u8 ((n : Int) / 256 % 256), .int .u8 ((n : Int) / 65536 % 256), .int .u8 ((n : Int) / 16777216)] 5)) :=
    run_convert_bytes_back (P := Try.prog) _ 27 9 5 ⟨w.heap.size, 0, none⟩ 4 ((Fm.four n).map UInt8.ofNat) u_bytes u_byte u_string (fun j hj => by
      have e : (⟨w.heap.size, 0, none⟩ : Addr).add j = ⟨w.heap.size, j, none⟩ := by unfold Addr.add; split <;> simp_all
      rw [e, cell_new]
      have hj4 : j < 4 := by simpa [Fm.four] using hj
      rcases (by omega : j = 0 ∨ j = 1 ∨ j = 2 ∨ j = 3) with rfl | rfl | rfl | rfl <;> simp [Fm.four, UInt8.toNat_ofNat'] <;> omega)
  have hz : (n : Int) / 16777216 < 256 := by omega
  go_wp2
  go_ret
  exact ⟨rfl, by go_grown⟩

theorem rput_n (n : Nat) (hn : n < 18446744073709551616) (w : World) :
    Calls Try.prog 20 #[.int .u64 n] w fun e w' => e = .returned (.string (numS n)) ∧ Below w.heap.size w w' := rput_any 10 n (by decide) (Vm.lt_pow10 hn) hn (by decide) w
set_option maxRecDepth 100000 in
theorem rwrap_any (b : ByteArray) (h1 : b.size + (numS b.size).size + 4 ≤ 16777216) (w : World) :
    Calls Try.prog 12 #[.string b] w fun e w' => e = .returned (.tuple #[.string (frameS b), .int .i64 0]) ∧ Below w.heap.size w w' := by
  have hl := Vm.put_len b.size
  have hz := numS_size b.size
  have hz1 : 1 ≤ (numS b.size).size := by omega
  have hz2 : (numS b.size).size ≤ 10 := by omega
  clear hz hl
  go_enter Try.func12, Try.ntmps12
  go_upto_region 1 with fail
  go_cut [4] (fun v wx => ∃ a : ByteArray, v = .string a ∧ Hid (a = numS b.size ++ b) ∧ Below w.heap.size w wx)
  case first =>
    go_wp2_with fail
    refine (rput_n b.size (by omega) w).mono ?_
    rintro e w1 ⟨rfl, b1⟩
    go_wp2_with fail
    go_meet
    exact ⟨_, rfl, rfl, b1⟩
  obtain ⟨a, rfl, haa, b1⟩ := hcut
  have ha1 : a.size ≤ 16777212 := by rw [haa.out, ByteArray.size_append]; omega
  clear h1 hz1 hz2
  go_upto_if 14 with fail
  rw [show decide ((16777216 : Int) < (a.size : Int) + 4) = false from decide_eq_false (by omega)]
  go_wp2_with fail
  refine (rSum_any (a) (by omega) _).mono ?_
  rintro e w' ⟨rfl, rfl⟩
  go_wp2_with fail
  refine (Seal_any _ (sum_lt _ (nats_lt (a))) _).mono ?_
  rintro e w2 ⟨rfl, b2⟩
  have hf := footS_size (Fm.sum (nats (a)))
  go_wp2_with fail
  go_ret2
  exact ⟨by rw [frameS, ← haa.out]; rfl, b1.trans (b2.mono b1.size)⟩
end Go.Proofs.Ytianpbgnfdkpmaa
