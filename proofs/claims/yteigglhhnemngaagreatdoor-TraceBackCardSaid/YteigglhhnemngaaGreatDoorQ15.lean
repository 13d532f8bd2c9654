/-
  SEVERAL TEXTS IN ONE (a claim has sixty files at most): Fr, Fs, Fp: the head of each stands ahead of it. No condition but theirs.
-/
import Derived.Test.YteigglhhnemngaaGreatDoorQ14
import Derived.Outline
import Derived.Deep.RegionHeld3
import Derived.Deep.RegionWith
import Derived.Deep.DeepCutAuto
import Derived.Deep.CutBlock
namespace Go.Proofs.YteigglhhnemngaaGreatDoor
set_option maxRecDepth 100000
open Go.ChangeShapes Go.WideShapes Go.ChangeAt Go.RowKit Go.ChangeMaps
set_option linter.unusedVariables false
theorem turned (r : Nat) (hr : r < 4294967296) : 4294967295 ^^^ r = 4294967295 - r := by
  have h : (BitVec.allOnes 32 ^^^ BitVec.ofNat 32 r).toNat = 4294967295 - r := by
    rw [BitVec.allOnes_xor, BitVec.toNat_not, BitVec.toNat_ofNat, Nat.mod_eq_of_lt (by omega)]
  rw [BitVec.toNat_xor, BitVec.toNat_allOnes, BitVec.toNat_ofNat, Nat.mod_eq_of_lt (by omega)] at h
  exact h
set_option maxRecDepth 100000 in
theorem rSum_any (s : ByteArray) (hs : s.size ≤ 9223372036854775807) (w : World) :
    Calls Tryz.prog 65 #[.string s] w fun e w' => e = .returned (.int .u32 (Fm.sum (nats s) : Nat)) ∧ w = w' := by
  go_enter Tryz.func65, Tryz.ntmps65
  go_wp2
  go_loop [3, 4] (fun a i => ∃ k r : Nat, k ≤ s.size ∧ r < 4294967296 ∧ i = .int .i64 k ∧ a = .int .u32 r ∧ Hid (Fm.reg r ((nats s).drop k) = Fm.reg 4294967295 (nats s))) (fun _ i => s.size - (intOf i).toNat)
  case atStart => exact ⟨0, 4294967295, by omega, by omega, rfl, rfl, rfl⟩
  case round =>
    obtain ⟨k, r, hk, hr, rfl, rfl, hs1⟩ := hrel
    by_cases hlt : k < s.size
    · have hx : bits .xor .u32 (r : Int) (s[k].toNat : Int) = ((r ^^^ s[k].toNat : Nat) : Int) := u32_xor_nat r _ hr (by have := s[k].toNat_lt; omega)
      have hxl : r ^^^ s[k].toNat < 4294967296 := Nat.xor_lt_two_pow (n := 32) hr (by have := s[k].toNat_lt; omega)
      obtain ⟨x, hxe⟩ : ∃ x, x = r ^^^ s[k].toNat := ⟨_, rfl⟩
      rw [← hxe] at hx hxl
      have HX := Lib.hid hxe
      clear hxe
      have hb0 : (s[k].toNat : Int) < 256 := by have := s[k].toNat_lt; omega
      go_wp2
      clear hx
      go_loop [3, 5] (fun a i => ∃ m q : Nat, m ≤ 8 ∧ q < 4294967296 ∧ i = .int .i64 m ∧ a = .int .u32 q ∧ Hid (Fm.stN (8 - m) q = Fm.stN 8 x)) (fun _ i => 8 - (intOf i).toNat)
      case atStart => exact ⟨0, x, by omega, hxl, rfl, rfl, rfl⟩
      case round =>
        obtain ⟨m, q, hm, hq, rfl, rfl, hs2⟩ := hrel
        by_cases hlm : m < 8
        · have hsl := Fm.st_lt hq
          have Hm : Hid (Fm.stN (8 - (m + 1)) (Fm.st q) = Fm.stN 8 x) := by
            show _ = _
            rw [← hs2.out, show 8 - m = (8 - (m + 1)) + 1 by omega]
            rfl
          by_cases hodd : q % 2 = 1
          · have e1 : ((q : Int) % 2 == 1) = true := by simp; omega
            have e2 : bits .xor .u32 ((q : Int) / 2) 3988292384 = ((Fm.st q : Nat) : Int) := by
              unfold Fm.st
              rw [if_pos hodd, show (q : Int) / 2 = ((q / 2 : Nat) : Int) by omega]
              exact u32_xor_nat _ 3988292384 (by omega) (by decide)
            clear hodd
            go_wp2
            go_round
            case rel => exact ⟨m + 1, Fm.st q, by omega, hsl, by go_num, rfl, Hm⟩
            case measure => simp [intOf]; omega
          · have e1 : ((q : Int) % 2 == 1) = false := by simp; omega
            have e2 : (q : Int) / 2 = ((Fm.st q : Nat) : Int) := by
              unfold Fm.st
              rw [if_neg hodd]
              omega
            have E2 := Lib.hid e2
            clear hodd e2
            go_wp2
            go_round
            case rel => exact ⟨m + 1, Fm.st q, by omega, hsl, by go_num, by rw [E2.out], Hm⟩
            case measure => simp [intOf]; omega
        · have hqx : q = Fm.stN 8 x := by
            have e := hs2.out
            rw [show 8 - m = 0 by omega] at e
            exact e
          have HQ := Lib.hid hqx
          clear hqx
          go_wp2
          go_round
          case rel =>
            refine ⟨k + 1, q, by omega, hq, by go_num, rfl, ?_⟩
            have e := hs1.out
            rw [nats_drop s k hlt, Fm.reg_cons, Fm.upd, ← HX.out, ← HQ.out] at e
            exact e
          case measure => simp [intOf]; omega
    · have hr1 : r = Fm.reg 4294967295 (nats s) := by
        have e := hs1.out
        rw [List.drop_eq_nil_of_le (by rw [nats_length]; omega)] at e
        exact e
      have Hr := Lib.hid hr1
      clear hr1
      go_wp2
      go_ret
      refine ⟨?_, rfl⟩
      show Ending.returned (.int .u32 (4294967295 - (r : Int))) = _
      rw [Fm.sum, ← Hr.out, turned r hr]
      rw [show (4294967295 : Int) - (r : Int) = ((4294967295 - r : Nat) : Int) by omega]
set_option maxRecDepth 100000 in
theorem Seal_any (n : Nat) (hn : n < 4294967296) (w : World) :
    Calls Tryz.prog 64 #[.int .u32 n] w fun e w' => e = .returned (.string (footS n)) ∧ Below w.heap.size w w' := by
  go_enter Tryz.func64, Tryz.ntmps64
  have HC : (convert 43 9 (.slice (some ⟨w.heap.size, 0, none⟩) 4 4)).run Tryz.prog (w.alloc (.cells #[.int .u8 ((n : Int) % 256), .int .u8 ((n : Int) / 256 % 256), .int .u8 ((n : Int) / 65536 % 256), .int .u8 ((n : Int) / 16777216)] 5)) = .ok (.string (footS n)) (w.alloc (.cells #[.int .u8 ((n : Int) % 256), .int .u8 ((n : Int) / 256 % 256), .int .u8 ((n : Int) / 65536 % 256), .int .u8 ((n : Int) / 16777216)] 5)) :=
    run_convert_bytes_back (P := Tryz.prog) _ 43 9 5 ⟨w.heap.size, 0, none⟩ 4 ((Fm.four n).map UInt8.ofNat) u_bytes u_byte u_string (fun j hj => by
      have e : (⟨w.heap.size, 0, none⟩ : Addr).add j = ⟨w.heap.size, j, none⟩ := by unfold Addr.add; split <;> simp_all
      rw [e, cell_new]
      have hj4 : j < 4 := by simpa [Fm.four] using hj
      rcases (by omega : j = 0 ∨ j = 1 ∨ j = 2 ∨ j = 3) with rfl | rfl | rfl | rfl <;> simp [Fm.four, UInt8.toNat_ofNat'] <;> omega)
  have hz : (n : Int) / 16777216 < 256 := by omega
  go_wp2
  go_ret
  exact ⟨rfl, by go_grown⟩
end Go.Proofs.YteigglhhnemngaaGreatDoor
namespace Go.Proofs.YteigglhhnemngaaGreatDoor
set_option maxRecDepth 100000
open Go.ChangeShapes Go.WideShapes Go.ChangeAt Go.RowKit Go.ChangeMaps
set_option linter.unusedVariables false
theorem rget_is (s : ByteArray) (n size e : Nat) (hs : s.size ≤ 9223372036854775807) (h : Vm.get (bytes s) = (n, size, e)) (w : World) :
    Calls Tryz.prog 69 #[.string s] w fun r w' => r = .returned (.tuple #[.int .u64 n, .int .i64 size, .int .i64 e]) ∧ w = w' := by
  have := rget_any s hs w
  rw [h] at this
  exact this
theorem below_drew {w w3 : World} (h : Below w.drew.heap.size w.drew w3) : Below w.heap.size w w3 := ((Below.refl _ _).drew).trans (h.mono (by simp))
theorem turned_test {a b : List UInt8} {v : Bool} (h : (a == b) = v) : (!(b == a)) = !v := by rw [← h, BEq.comm]
def RUnwIs (s t : ByteArray) (place e : Nat) : Prop := ∀ w : World, Calls Tryz.prog 37 #[.string s] w fun r w' => r = .returned (.tuple #[.string t, .int .i64 place, .int .i64 e]) ∧ Below w.heap.size w w'
set_option maxRecDepth 100000 in
theorem r_bad (s : ByteArray) (e : Nat) (he : e ≠ 0) (h : s.size ≤ 16777216) (hg : Vm.get (bytes s) = (0, 0, e)) : RUnwIs s ⟨#[]⟩ 0 e := by
  intro w
  have hb : ((e : Int) != 0) = true := by simp; omega
  have Hg := Lib.hid hg
  clear hg he
  go_enter Tryz.func37, Tryz.ntmps37
  go_wp2_with fail
  refine (rget_is s 0 0 e (by omega) Hg.out _).mono ?_
  rintro r w' ⟨rfl, rfl⟩
  go_wp2_with fail
  go_ret3
  exact ⟨rfl, Below.refl _ _⟩
set_option maxRecDepth 100000 in
theorem r_range (s : ByteArray) (n size : Nat) (h : s.size ≤ 16777216) (hn : 16777216 < n) (hg : Vm.get (bytes s) = (n, size, 0)) : RUnwIs s ⟨#[]⟩ 0 20 := by
  intro w
  have Hg := Lib.hid hg
  clear hg
  go_enter Tryz.func37, Tryz.ntmps37
  go_wp2_with fail
  refine (rget_is s n size 0 (by omega) Hg.out _).mono ?_
  rintro r w' ⟨rfl, rfl⟩
  go_wp2_with fail
  go_ret3
  exact ⟨rfl, Below.refl _ _⟩
set_option maxRecDepth 100000 in
theorem r_short (s : ByteArray) (n size : Nat) (h : s.size ≤ 16777216) (hn : n ≤ 16777216) (hz : size ≤ 10) (hl : s.size < size + n + 4) (hg : Vm.get (bytes s) = (n, size, 0)) : RUnwIs s ⟨#[]⟩ s.size 8 := by
  intro w
  have Hg := Lib.hid hg
  clear hg
  go_enter Tryz.func37, Tryz.ntmps37
  go_wp2_with fail
  refine (rget_is s n size 0 (by omega) Hg.out _).mono ?_
  rintro r w' ⟨rfl, rfl⟩
  go_wp2_with fail
  go_ret3
  exact ⟨rfl, Below.refl _ _⟩
set_option maxRecDepth 100000 in
theorem r_long (s : ByteArray) (n size : Nat) (h : s.size ≤ 16777216) (hn : n ≤ 16777216) (hz : size ≤ 10) (hl : size + n + 4 < s.size) (hg : Vm.get (bytes s) = (n, size, 0)) : RUnwIs s ⟨#[]⟩ (size + n + 4) 10 := by
  intro w
  have Hg := Lib.hid hg
  clear hg
  go_enter Tryz.func37, Tryz.ntmps37
  go_wp2_with fail
  refine (rget_is s n size 0 (by omega) Hg.out _).mono ?_
  rintro r w' ⟨rfl, rfl⟩
  go_wp2_with fail
  go_ret3
  exact ⟨rfl, Below.refl _ _⟩
set_option maxRecDepth 100000 in
theorem r_sum (s : ByteArray) (n size : Nat) (h : s.size ≤ 16777216) (hz : size ≤ 10) (hl : s.size = size + n + 4) (hg : Vm.get (bytes s) = (n, size, 0))
    (hf : ((s.extract (size + n) s.size).toList == (footS (Fm.sum (nats (s.extract 0 (size + n))))).toList) = false) : RUnwIs s ⟨#[]⟩ (size + n) 9 := by
  intro w
  have Hg := Lib.hid hg
  have Hf := Lib.hid hf
  have h1 : ¬ s.size < size + n + 4 := by omega
  have h2 : ¬ size + n + 4 < s.size := by omega
  have h3 : n ≤ 16777216 := by omega
  clear hg hl hf
  go_enter Tryz.func37, Tryz.ntmps37
  go_wp2_with fail
  refine (rget_is s n size 0 (by omega) Hg.out _).mono ?_
  rintro r w' ⟨rfl, rfl⟩
  go_wp2_with fail
  have g1 : (0 : Int) ≤ (size : Int) + (n : Int) := by omega
  have g2 : (size : Int) + (n : Int) ≤ (s.size : Int) := by omega
  have hx : (s.extract 0 (size + n)).size ≤ 9223372036854775807 := by rw [ByteArray.size_extract]; omega
  have hm := sum_lt _ (nats_lt (s.extract 0 (size + n)))
  clear h1 h2 h3
  go_region_with (first | (go_at_call 65; refine (rSum_any (s.extract 0 (size + n)) hx _).mono ?_; rintro e w' ⟨rfl, rfl⟩) | (go_at_call 64; refine (Seal_any (Fm.sum (nats (s.extract 0 (size + n)))) hm _).mono ?_; rintro e w3 ⟨rfl, b3⟩))
  all_goals
    have b4 := below_drew b3
    clear b3 hx g1 g2 hm
    have e3 : ((size : Int) + (n : Int)).toNat = size + n := by omega
    have e5 := turned_test Hf.out
    rw [e3] at *
    go_wp2_with fail
    · go_ret3
      exact ⟨rfl, b4⟩
    · exact absurd (e5.symm.trans (by assumption)) (by decide)
set_option maxRecDepth 100000 in
theorem r_ok (s : ByteArray) (n size : Nat) (h : s.size ≤ 16777216) (hz : size ≤ 10) (hl : s.size = size + n + 4) (hg : Vm.get (bytes s) = (n, size, 0))
    (hf : ((s.extract (size + n) s.size).toList == (footS (Fm.sum (nats (s.extract 0 (size + n))))).toList) = true) : RUnwIs s (s.extract size (size + n)) 0 0 := by
  intro w
  have Hg := Lib.hid hg
  have Hf := Lib.hid hf
  have h1 : ¬ s.size < size + n + 4 := by omega
  have h2 : ¬ size + n + 4 < s.size := by omega
  have h3 : n ≤ 16777216 := by omega
  clear hg hl hf
  go_enter Tryz.func37, Tryz.ntmps37
  go_wp2_with fail
  refine (rget_is s n size 0 (by omega) Hg.out _).mono ?_
  rintro r w' ⟨rfl, rfl⟩
  go_wp2_with fail
  have g3 : (size : Int) ≤ (size : Int) + (n : Int) := by omega
  have g1 : (0 : Int) ≤ (size : Int) + (n : Int) := by omega
  have g2 : (size : Int) + (n : Int) ≤ (s.size : Int) := by omega
  have hx : (s.extract 0 (size + n)).size ≤ 9223372036854775807 := by rw [ByteArray.size_extract]; omega
  have hm := sum_lt _ (nats_lt (s.extract 0 (size + n)))
  clear h1 h2 h3
  go_region_with (first | (go_at_call 65; refine (rSum_any (s.extract 0 (size + n)) hx _).mono ?_; rintro e w' ⟨rfl, rfl⟩) | (go_at_call 64; refine (Seal_any (Fm.sum (nats (s.extract 0 (size + n)))) hm _).mono ?_; rintro e w3 ⟨rfl, b3⟩))
  all_goals
    have b4 := below_drew b3
    clear b3 hx g1 g2 hm
    have e3 : ((size : Int) + (n : Int)).toNat = size + n := by omega
    have e5 := turned_test Hf.out
    rw [e3] at *
    go_wp2_with fail
    · exact absurd (e5.symm.trans (by assumption)) (by decide)
    · go_ret3
      exact ⟨rfl, b4⟩
end Go.Proofs.YteigglhhnemngaaGreatDoor
namespace Go.Proofs.YteigglhhnemngaaGreatDoor
set_option maxRecDepth 100000
open Go.RowKit
set_option linter.unusedVariables false
theorem get_cases (s : ByteArray) : (∃ e, e ≠ 0 ∧ Vm.get (bytes s) = (0, 0, e)) ∨ ∃ n size, Vm.get (bytes s) = (n, size, 0) ∧ size ≤ 10 ∧ size ≤ s.size ∧ n < 18446744073709551616 ∧ Vm.put n = (bytes s).take size := by
  rcases Vm.get_shape (bytes s) 0 0 (by omega) with (e | e | e) | ⟨n, size, e, s1, s2, s3, s4, s5, s6⟩
  · exact .inl ⟨8, by decide, e⟩
  · exact .inl ⟨20, by decide, e⟩
  · exact .inl ⟨11, by decide, e⟩
  · refine .inr ⟨n, size, by rw [Vm.get, e]; simp, by omega, by rw [← bytes_length]; exact s2, by simpa using s5, s6 10 (by omega)⟩
theorem frame_of (s : ByteArray) (n size : Nat) (hn : n < 18446744073709551616) (hl : s.size = size + n + 4) (hp : Vm.put n = (bytes s).take size)
    (hf : bytes (s.extract (size + n) s.size) = bytes (footS (Fm.sum (nats (s.extract 0 (size + n)))))) : frameS (s.extract size (size + n)) = s := by
  have hz : (s.extract size (size + n)).size = n := by rw [ByteArray.size_extract]; omega
  have h1 : numS n ++ s.extract size (size + n) = s.extract 0 (size + n) := by
    apply bytes_inj
    rw [bytes_append, bytes_numS, hp, bytes_extract, bytes_extract, List.drop_zero]
    have : (bytes s).take size = ((bytes s).take (size + n)).take size := by rw [List.take_take, Nat.min_eq_left (by omega)]
    rw [this, List.take_append_drop]
  apply bytes_inj
  rw [frameS, hz, h1, bytes_append, ← hf, bytes_extract, bytes_extract, List.drop_zero, ← bytes_length s, List.take_length, List.take_append_drop]
theorem told_any (s : ByteArray) (h : s.size ≤ 16777216) : ∃ t place e, UnwIs s t place e ∧ RUnwIs s t place e ∧ ToldF s t place e := by
  rcases get_cases s with ⟨e, he, hg⟩ | ⟨n, size, hg, hz, hs, hn, hp⟩
  · exact ⟨_, _, _, u_bad s e he h hg, r_bad s e he h hg, .inl ⟨he, rfl, by omega⟩⟩
  · by_cases h1 : 16777216 < n
    · exact ⟨_, _, _, u_range s n size h h1 hg, r_range s n size h h1 hg, .inl ⟨by decide, rfl, by omega⟩⟩
    · by_cases h2 : s.size < size + n + 4
      · exact ⟨_, _, _, u_short s n size h (by omega) hz h2 hg, r_short s n size h (by omega) hz h2 hg, .inl ⟨by decide, rfl, by omega⟩⟩
      · by_cases h3 : size + n + 4 < s.size
        · exact ⟨_, _, _, u_long s n size h (by omega) hz h3 hg, r_long s n size h (by omega) hz h3 hg, .inl ⟨by decide, rfl, by omega⟩⟩
        · by_cases h4 : bytes (s.extract (size + n) s.size) = bytes (footS (Fm.sum (nats (s.extract 0 (size + n)))))
          · exact ⟨_, _, _, u_ok s n size h hz (by omega) hg (by rw [test_bytes, decide_eq_true h4]), r_ok s n size h hz (by omega) hg (by rw [test_bytes, decide_eq_true h4]), .inr ⟨rfl, rfl, frame_of s n size hn (by omega) hp h4⟩⟩
          · exact ⟨_, _, _, u_sum s n size h hz (by omega) hg (by rw [test_bytes, decide_eq_false h4]), r_sum s n size h hz (by omega) hg (by rw [test_bytes, decide_eq_false h4]), .inl ⟨by decide, rfl, by omega⟩⟩
end Go.Proofs.YteigglhhnemngaaGreatDoor
