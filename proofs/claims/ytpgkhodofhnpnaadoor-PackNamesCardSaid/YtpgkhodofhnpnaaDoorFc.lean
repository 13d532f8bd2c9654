/-
  CONTRACTS OF PACKAGE frame's SUMS: the closure over one register, sum, Sum: the register of 32 bits, in plain numbers. Conditions: texts shorter than 2^63 bytes.
-/
import Derived.Test.YtpgkhodofhnpnaaDoorFm
import Derived.Lib.Hide
import Derived.Test.YtpgkhodofhnpnaaDoorZa
namespace Go.Proofs.YtpgkhodofhnpnaaDoor
set_option maxRecDepth 100000
open Go.RowKit
set_option linter.unusedVariables false

theorem and_one (r : Nat) : r &&& 1 = r % 2 := Nat.and_one_is_mod r
/-- What a round does to the register. -/
theorem st_go (r : Nat) (hr : r < 4294967296) : bits .xor .u32 ((r : Int) / 2) (bits .and .u32 3988292384 (-(bits .and .u32 (r : Int) 1) % 4294967296)) = ((Fm.st r : Nat) : Int) := by
  have e1 : bits .and .u32 (r : Int) 1 = ((r % 2 : Nat) : Int) := by
    have := u32_and_nat r 1 hr (by decide)
    rw [and_one] at this
    exact this
  have e2 : ((r : Int) / 2) = ((r / 2 : Nat) : Int) := by omega
  rw [e1, e2]
  unfold Fm.st
  by_cases h : r % 2 = 1
  · rw [if_pos h, h]
    have e3 : bits .and .u32 3988292384 (-((1 : Nat) : Int) % 4294967296) = ((3988292384 : Nat) : Int) := by decide
    rw [e3]
    exact u32_xor_nat _ _ (by omega) (by decide)
  · rw [if_neg h, show r % 2 = 0 by omega]
    have e3 : bits .and .u32 3988292384 (-((0 : Nat) : Int) % 4294967296) = ((0 : Nat) : Int) := by decide
    rw [e3, u32_xor_nat _ _ (by omega) (by decide), Nat.xor_zero]

set_option maxRecDepth 100000 in
theorem clo_any (b r : Nat) (hb : b < 256) (hr : r < 4294967296) (w : World) :
    Calls Tryd.prog 58 #[.int .u8 b, .pointer (some ⟨w.heap.size, 0, none⟩)] (w.alloc (.cells #[.int .u32 r] 99)) fun e w' => e = .returned (.tuple #[]) ∧ w.alloc (.cells #[.int .u32 (Fm.upd r b : Nat)] 99) = w' := by
  have hx : bits .xor .u32 (r : Int) (b : Int) = ((r ^^^ b : Nat) : Int) := u32_xor_nat r b hr (by omega)
  have hxl : r ^^^ b < 4294967296 := Nat.xor_lt_two_pow (n := 32) hr (by omega)
  go_enter Tryd.func58, Tryd.ntmps58
  go_wp2

  clear hx
  go_loopw [7] (fun i wr => ∃ k q : Nat, k ≤ 8 ∧ q < 4294967296 ∧ i = .int .i64 k ∧ Hid (Fm.stN (8 - k) q = Fm.upd r b) ∧ wr = w.alloc (.cells #[.int .u32 q] 99)) (fun i _ => 8 - (intOf i).toNat)
  case atStart => exact ⟨0, r ^^^ b, by omega, hxl, rfl, rfl, rfl⟩
  case round =>
    obtain ⟨k, q, hk, hq, rfl, hs, rfl⟩ := hrel
    by_cases hlt : k < 8
    · have Hg := Lib.hid (st_go q hq)
      have hsl := Fm.st_lt hq
      have hm : Fm.stN (8 - (k + 1)) (Fm.st q) = Fm.stN (8 - k) q := by rw [show 8 - k = (8 - (k + 1)) + 1 by omega]; rfl
      have Hm : Hid (Fm.stN (8 - (k + 1)) (Fm.st q) = Fm.upd r b) := by show _ = _; rw [hm, hs.out]
      clear hm
      go_wp2
      go_roundw
      case rel => exact ⟨k + 1, Fm.st q, by omega, hsl, by go_num, Hm, by rw [Hg.out]⟩
      case measure => simp [intOf]; omega
    · go_wp2
      have hq' : q = Fm.upd r b := by have := hs.out; rw [show 8 - k = 0 by omega] at this; exact this
      go_end0
      exact ⟨rfl, by rw [hq']⟩

/-- The bytes of parts, one behind the other, as numbers. -/
def nats (s : ByteArray) : List Nat := s.data.toList.map (·.toNat)
theorem nats_lt (s : ByteArray) : ∀ b ∈ nats s, b < 256 := by
  intro b hb
  obtain ⟨x, _, rfl⟩ := List.mem_map.1 hb
  exact x.toNat_lt
theorem nats_length (s : ByteArray) : (nats s).length = s.size := by simp [nats]
theorem nats_drop (s : ByteArray) (k : Nat) (h : k < s.size) : (nats s).drop k = s[k].toNat :: (nats s).drop (k + 1) := by
  rw [List.drop_eq_getElem_cons (by simpa [nats] using h)]
  simp [nats]
  rfl
def natsAll (L : List ByteArray) : List Nat := L.flatMap nats
theorem natsAll_lt (L : List ByteArray) : ∀ b ∈ natsAll L, b < 256 := by
  intro b hb
  obtain ⟨s, _, h⟩ := List.mem_flatMap.1 hb
  exact nats_lt s b h
theorem natsAll_drop (L : List ByteArray) (k : Nat) (h : k < L.length) : natsAll (L.drop k) = nats L[k] ++ natsAll (L.drop (k + 1)) := by
  rw [List.drop_eq_getElem_cons h]
  rfl

set_option maxRecDepth 100000 in
theorem sum_in (g c : Nat) (L : List ByteArray) (w : World) (hg : g < w.heap.size) (hn : L.length ≤ 1000) (hL : ∀ j (h : j < L.length), w.cell? ⟨g, j, none⟩ = some (.string L[j])) (hs : ∀ s ∈ L, s.size ≤ 9223372036854775807) :
    Calls Tryd.prog 46 #[.slice (some ⟨g, 0, none⟩) L.length c] w fun e w' => e = .returned (.int .u32 (Fm.sum (natsAll L) : Nat)) ∧ Below w.heap.size w w' := by
  go_enter Tryd.func46, Tryd.ntmps46
  go_wp2
  go_loopw [11] (fun i wr => ∃ k r : Nat, k ≤ L.length ∧ r < 4294967296 ∧ i = .int .i64 k ∧ Hid (Fm.reg r (natsAll (L.drop k)) = Fm.reg 4294967295 (natsAll L)) ∧ wr = w.alloc (.cells #[.int .u32 r] 99)) (fun i _ => L.length - (intOf i).toNat)
  case atStart => exact ⟨0, 4294967295, by omega, by omega, rfl, rfl, rfl⟩
  case round =>
    obtain ⟨k, r, hk, hr, rfl, hs1, rfl⟩ := hrel
    by_cases hlt : k < L.length
    · have hsz := hs L[k] (List.getElem_mem _)
      have hcell : (w.alloc (.cells #[.int .u32 r] 99)).cell? ⟨g, k, none⟩ = some (.string L[k]) := by
        rw [World.cell?_alloc_lt w _ ⟨g, k, none⟩ hg]
        exact hL k hlt
      obtain ⟨s, hse⟩ : ∃ s, s = L[k] := ⟨_, rfl⟩
      rw [← hse] at hcell hsz
      have HS := Lib.hid hse
      clear hse
      go_wp2
      go_loopw [17] (fun i wr => ∃ m q : Nat, m ≤ s.size ∧ q < 4294967296 ∧ i = .int .i64 m ∧ Hid (Fm.reg q ((nats s).drop m) = Fm.reg r (nats s)) ∧ wr = w.alloc (.cells #[.int .u32 q] 99)) (fun i _ => s.size - (intOf i).toNat)
      case atStart => exact ⟨0, r, by omega, hr, rfl, rfl, rfl⟩
      case round =>
        obtain ⟨m, q, hm, hq, rfl, hs2, rfl⟩ := hrel
        by_cases hlm : m < s.size
        · have hul := Fm.upd_lt hq s[m].toNat_lt
          have Hs : Hid (Fm.reg (Fm.upd q s[m].toNat) ((nats s).drop (m + 1)) = Fm.reg r (nats s)) := by
            have e := hs2.out
            rw [nats_drop s m hlm, Fm.reg_cons] at e
            exact e
          go_wp2_with (go_at_call 58; refine (clo_any s[m].toNat q s[m].toNat_lt hq _).mono ?_; rintro e w' ⟨rfl, rfl⟩)
          go_roundw
          case rel => exact ⟨m + 1, _, by omega, hul, by go_num, Hs, rfl⟩
          case measure => simp [intOf]; omega
        · have hqr : q = Fm.reg r (nats s) := by
            have e := hs2.out
            rw [List.drop_eq_nil_of_le (by rw [nats_length]; omega)] at e
            exact e
          have Hq := Lib.hid hqr
          clear hqr
          go_wp2
          go_roundw
          case rel =>
            refine ⟨k + 1, q, by omega, hq, by go_num, ?_, rfl⟩
            have e := hs1.out
            rw [natsAll_drop L k hlt, Fm.reg_append, ← HS.out, ← Hq.out] at e
            exact e
          case measure => simp [intOf]; omega
    · have hr1 : r = Fm.reg 4294967295 (natsAll L) := by
        have e := hs1.out
        rw [List.drop_eq_nil_of_le (by omega)] at e
        exact e
      have Hr := Lib.hid hr1
      clear hr1
      go_wp2
      go_ret
      refine ⟨?_, by go_grown⟩
      show Ending.returned (.int .u32 (bits .xor .u32 IntKind.u32.max (r : Int))) = _
      rw [show bits .xor .u32 IntKind.u32.max (r : Int) = ((4294967295 ^^^ r : Nat) : Int) from u32_xor_nat 4294967295 r (by decide) hr, Hr.out]
      rfl
end Go.Proofs.YtpgkhodofhnpnaaDoor
