/-
  VarintTells (P1.1, P1.2): any number's bytes, what stands at the beginning of any text, any whole number as a number, and back, are the document's: the statement holds for every input. Conditions: none beyond the statement's own (texts of at most 1000 bytes).
-/
import Derived.Test.YtdhmehciebgblaaVw
import Derived.Deep.RegionWith
import Derived.Test.YtdhmehciebgblaaLift
namespace Go.Proofs.Ytdhmehciebgblaa
open Go.ChangeShapes Go.WideShapes Go.ChangeAt Go.RowKit Go.ChangeMaps
set_option linter.unusedVariables false
theorem conv_one (a : Addr) (x : Nat) (hx : x < 256) (wx : World) (h : wx.cell? a = some (.int .u8 x)) :
    (convert 38 9 (.slice (some a) 1 1)).run Try.prog wx = .ok (.string ⟨#[UInt8.ofNat x]⟩) wx := by
  have := run_convert_bytes_back (P := Try.prog) wx 38 9 5 a 1 [UInt8.ofNat x] u_bytes u_byte u_string (fun j hj => by
    obtain rfl : j = 0 := by simp at hj; omega
    rw [show a.add 0 = a from rfl, h]
    have e : (UInt8.ofNat x).toNat = x := by simp [UInt8.toNat_ofNat']; omega
    simp [e])
  exact this

set_option maxRecDepth 100000 in
theorem rput_low (n : Nat) (hn : n < 128) (w : World) :
    Calls Try.prog 16 #[.int .u64 n] w fun e w' => e = .returned (.string ⟨#[UInt8.ofNat n]⟩) ∧ Below w.heap.size w w' := by
  have hc := conv_one ⟨w.heap.size, 0, none⟩ n (by omega) (w.alloc (.cells #[.int .u8 n] 5)) (by rw [cell_new]; rfl)
  go_enter Try.func16, Try.ntmps16
  go_wp2_with fail
  go_ret
  exact ⟨rfl, by go_grown⟩

theorem cell_after {w w3 : World} {v : Value} {t : TypeId} (h : Below (w.alloc (.cells #[v] t)).drew.heap.size (w.alloc (.cells #[v] t)).drew w3) : w3.cell? ⟨w.heap.size, 0, none⟩ = some v := by
  have e := h.cell (p := ⟨w.heap.size, 0, none⟩) (by simp)
  rw [e]
  exact cell_new w #[v] t 0
theorem below_first {w w3 : World} {o : Obj} (h : Below (w.alloc o).drew.heap.size (w.alloc o).drew w3) : Below w.heap.size w w3 :=
  (((Below.refl _ _).alloc (Nat.le_refl _) o).drew).trans (h.mono (by simp))
theorem below_then {w w3 : World} (h : Below w.drew.heap.size w.drew w3) (o : Obj) : Below w.heap.size w (w3.alloc o) :=
  (((Below.refl _ _).drew).trans (h.mono (by simp))).alloc (by simpa using h.size) o
set_option maxRecDepth 100000 in
theorem rput_high (n : Nat) (hn : 128 ≤ n) (h1 : n < 18446744073709551616) (w : World) (r : ByteArray) (hr : r.size ≤ 100) (c : UInt8) (hcn : c.toNat = n % 128 + 128)
    (ih : ∀ wx, Calls Try.prog 16 #[.int .u64 ((n : Int) / 128)] wx fun e w' => e = .returned (.string r) ∧ Below wx.heap.size wx w') :
    Calls Try.prog 16 #[.int .u64 n] w fun e w' => e = .returned (.string (⟨#[c]⟩ ++ r)) ∧ Below w.heap.size w w' := by
  have Ih : Hid (∀ wx, Calls Try.prog 16 #[.int .u64 ((n : Int) / 128)] wx fun e w' => e = .returned (.string r) ∧ Below wx.heap.size wx w') := ih
  clear ih
  go_enter Try.func16, Try.ntmps16
  go_wp2_with fail
  have hs1 : (⟨#[c]⟩ : ByteArray).size = 1 := rfl
  have e0 : (n : Int).tmod 128 = (n : Int) % 128 := Int.tmod_eq_emod_of_nonneg (by omega)
  have e4 : IntKind.u64.wrap ((n : Int) / 128) = (n : Int) / 128 := IntWalk.u64_in _ ⟨by omega, by omega⟩
  have e1 : IntKind.u64.wrap ((n : Int) % 128 + 128) = (n : Int) % 128 + 128 := IntWalk.u64_in _ ⟨by omega, by omega⟩
  have e2 : IntKind.u8.wrap ((n : Int) % 128 + 128) = (n : Int) % 128 + 128 := IntWalk.u8_in _ ⟨by omega, by omega⟩
  have e3 : ((n : Int) % 128 + 128) % 256 = (n : Int) % 128 + 128 := by omega
  have hc : ∀ (b : Nat) (wx : World), wx.cell? ⟨b, 0, none⟩ = some (.int .u8 ((n : Int) % 128 + 128)) → (convert 38 9 (.slice (some ⟨b, 0, none⟩) 1 1)).run Try.prog wx = .ok (.string ⟨#[c]⟩) wx := fun b wx h => by
    have e5 := conv_one ⟨b, 0, none⟩ c.toNat c.toNat_lt wx (by rw [h, hcn]; rfl)
    simpa using e5
  clear hcn
  go_region_with (first | (go_at_call 16; refine (Ih.out _).mono ?_; rintro e w3 ⟨rfl, b3⟩; try (have hc3 := cell_after b3)))
  all_goals go_wp2_with fail
  all_goals go_ret
  all_goals first | exact ⟨rfl, below_first b3⟩ | exact ⟨rfl, below_then b3 _⟩

theorem rput_any (f : Nat) : ∀ (n : Nat), 0 < f → n < 128 ^ f → n < 18446744073709551616 → f ≤ 10 → ∀ w : World,
    Calls Try.prog 16 #[.int .u64 n] w fun e w' => e = .returned (.string ⟨(Vm.putF f n).toArray⟩) ∧ Below w.heap.size w w' := by
  induction f with
  | zero => intro n h; omega
  | succ f ih =>
    intro n _ hn h64 hf w
    by_cases hl : n < 128
    · rw [Vm.putF, if_pos hl]
      exact rput_low n hl w
    · have hf0 : 0 < f := by
        rcases f with _ | g
        · simp at hn; omega
        · omega
      have hlen : ∀ g m, (Vm.putF g m).length ≤ g := by
        intro g
        induction g with
        | zero => intro m; simp [Vm.putF]
        | succ g ihg =>
          intro m; unfold Vm.putF; split
          · simp
          · have := ihg (m / 128); simp; omega
      rw [Vm.putF, if_neg hl]
      have hi := ih (n / 128) hf0 (by rw [Vm.pow_succ'] at hn; omega) (by omega) (by omega)
      have ec : ((n / 128 : Nat) : Int) = (n : Int) / 128 := by omega
      rw [ec] at hi
      have := rput_high n (by omega) h64 w ⟨(Vm.putF f (n / 128)).toArray⟩ (by have := hlen f (n / 128); simp [ByteArray.size]; omega) (UInt8.ofNat (n % 128 + 128)) (Vm.high_toNat n) hi
      refine this.mono fun e w' ⟨he, hb⟩ => ⟨?_, hb⟩
      rw [he]
      have ea : ∀ (c : UInt8) (l : List UInt8), (⟨#[c]⟩ : ByteArray) ++ ⟨l.toArray⟩ = ⟨(c :: l).toArray⟩ := by
        intro c l
        apply ByteArray.ext
        simp [ByteArray.data_append]
      rw [ea]

theorem rzig_any (x : Int) (h0 : -9223372036854775808 ≤ x) (h1 : x < 9223372036854775808) (w : World) :
    Calls Try.prog 17 #[.int .i64 x] w fun e w' => e = .returned (.int .u64 (if x < 0 then -2 * x - 1 else 2 * x)) ∧ w = w' := by
  by_cases hx : x < 0
  · rw [if_pos hx]
    go_enter Try.func17, Try.ntmps17
    go_wp2
    go_ret
    exact ⟨by simp; omega, rfl⟩
  · rw [if_neg hx]
    go_enter Try.func17, Try.ntmps17
    go_wp2
    go_ret
    exact ⟨rfl, rfl⟩
theorem rzag_any (n : Int) (h0 : 0 ≤ n) (h1 : n ≤ 18446744073709551615) (w : World) :
    Calls Try.prog 18 #[.int .u64 n] w fun e w' => e = .returned (.int .i64 (if n % 2 = 0 then n / 2 else - (n / 2) - 1)) ∧ w = w' := by
  by_cases hn : n % 2 = 0
  · rw [if_pos hn]
    have e3 : (n % 2 == 0) = true := by rw [hn]; rfl
    go_enter Try.func18, Try.ntmps18
    go_wp2
    go_ret
    exact ⟨rfl, rfl⟩
  · rw [if_neg hn]
    have e3 : (n % 2 == 0) = false := by rw [show n % 2 = 1 by omega]; rfl
    go_enter Try.func18, Try.ntmps18
    go_wp2
    go_ret
    exact ⟨rfl, rfl⟩

theorem add_step (k acc b U : Nat) (hb : b < 128) (hk : k ≤ 9) (hacc : acc < 128 ^ k) (hU : U = 128 ^ k) (h9 : k = 9 → b ≤ 1) :
    IntKind.u64.wrap ((acc : Int) + IntKind.u64.wrap ((b : Int) * (U : Int))) = ((acc + b * 128 ^ k : Nat) : Int) ∧ (k < 9 → acc + b * 128 ^ k < 128 ^ (k + 1)) := by
  subst hU
  have hlt : k < 9 → acc + b * 128 ^ k < 128 ^ (k + 1) := by
    intro _
    have h1 : b * 128 ^ k ≤ 127 * 128 ^ k := Nat.mul_le_mul_right _ (by omega)
    rw [Vm.pow_succ']; omega
  have hs : acc + b * 128 ^ k < 18446744073709551616 := by
    by_cases hk9 : k = 9
    · have := h9 hk9
      subst hk9
      rw [Vm.pow9] at hacc ⊢
      omega
    · have h3 : 128 ^ (k + 1) ≤ 128 ^ 9 := Nat.pow_le_pow_right (by decide) (by omega)
      rw [Vm.pow9] at h3
      have := hlt (by omega)
      omega
  refine ⟨?_, hlt⟩
  have ec : (b : Int) * ((128 ^ k : Nat) : Int) = ((b * 128 ^ k : Nat) : Int) := (Int.natCast_mul _ _).symm
  rw [ec, IntWalk.u64_in ((b * 128 ^ k : Nat) : Int) ⟨by omega, by omega⟩, IntWalk.u64_in _ ⟨by omega, by omega⟩]
  omega
theorem unit_step (k U : Nat) (hk : k < 9) (hU : U = 128 ^ k) : IntKind.u64.wrap ((U : Int) * 128) = ((128 ^ (k + 1) : Nat) : Int) := by
  subst hU
  have h3 : 128 ^ (k + 1) ≤ 128 ^ 9 := Nat.pow_le_pow_right (by decide) (by omega)
  rw [Vm.pow9] at h3
  have e := Vm.pow_succ' k
  rw [IntWalk.u64_in _ ⟨by omega, by omega⟩]
  omega

set_option maxRecDepth 100000 in
theorem rget_any (s : ByteArray) (hs : s.size ≤ 9223372036854775807) (w : World) :
    Calls Try.prog 15 #[.string s] w fun e w' => e = .returned (.tuple #[.int .u64 (Vm.get (bytes s)).1, .int .i64 (Vm.get (bytes s)).2.1, .int .i64 (Vm.get (bytes s)).2.2]) ∧ w = w' := by
  go_enter Try.func15, Try.ntmps15
  go_wp2
  go_loop [5, 6, 7] (fun n u i => ∃ k acc U : Nat, k ≤ s.size ∧ k ≤ 9 ∧ Hid (acc < 128 ^ k) ∧ i = .int .i64 k ∧ n = .int .u64 acc ∧ u = .int .u64 (U : Nat) ∧ Hid (U = 128 ^ k) ∧ Hid (Vm.get (bytes s) = Vm.getF ((bytes s).drop k) k acc)) (fun _ _ i => s.size - (intOf i).toNat)
  case atStart => exact ⟨0, 0, 1, by omega, by omega, by exact (by simp : 0 < 128 ^ 0), rfl, rfl, rfl, by exact (rfl : 1 = 128 ^ 0), by exact (rfl : Vm.get (bytes s) = _)⟩
  case round =>
    obtain ⟨k, acc, U, hk, hk9, hacc, rfl, rfl, rfl, hU, hd⟩ := hrel
    by_cases hlt : k < s.size
    · go_wp2
      · -- the tenth byte is above 1
        have h9 : (k : Int) = 9 := by assumption
        have hb : 1 < (s[k].toNat : Int) := by assumption
        have hv : Vm.get (bytes s) = (0, 0, 20) := by rw [hd.out, bytes, Vm.drop_cons s k hlt, Vm.g_range (by omega) (by omega)]
        go_ret3
        exact ⟨ret3 (by rw [hv]; rfl) (by rw [hv]; rfl) (by rw [hv]; rfl), rfl⟩
      · -- the last byte is 0, and the tenth
        have h9 : (k : Int) = 9 := by assumption
        have hb : s[k].toNat = 0 := by assumption
        have hv : Vm.get (bytes s) = (0, 0, 11) := by rw [hd.out, bytes, Vm.drop_cons s k hlt, Vm.g_wide (by omega) hb]
        go_ret3
        exact ⟨ret3 (by rw [hv]; rfl) (by rw [hv]; rfl) (by rw [hv]; rfl), rfl⟩
      · -- the tenth byte is 1
        have h9 : (k : Int) = 9 := by assumption
        have hb1 : (s[k].toNat : Int) ≤ 1 := by assumption
        have hb0 : ¬ s[k].toNat = 0 := by assumption
        have hv : Vm.get (bytes s) = (acc + s[k].toNat % 128 * 128 ^ k, k + 1, 0) := by rw [hd.out, bytes, Vm.drop_cons s k hlt, Vm.g_end (by omega) (by omega) (by omega)]
        go_ret3
        have hj := (add_step k acc (s[k].toNat % 128) U (by omega) hk9 hacc.out hU.out (by omega)).1
        rw [show s[k].toNat % 128 = s[k].toNat by omega] at hj hv
        exact ⟨ret3 (by rw [hv]; exact hj) (by rw [hv]; show (10 : Int) = ((k + 1 : Nat) : Int); omega) (by rw [hv]; rfl), rfl⟩
      · -- the last byte is 0, and not the first
        have hb : s[k].toNat = 0 := by assumption
        have hk0 : 0 < k := by assumption
        have hv : Vm.get (bytes s) = (0, 0, 11) := by rw [hd.out, bytes, Vm.drop_cons s k hlt, Vm.g_wide (by omega) hb]
        go_ret3
        exact ⟨ret3 (by rw [hv]; rfl) (by rw [hv]; rfl) (by rw [hv]; rfl), rfl⟩
      · -- the first byte is 0
        have hb : s[k].toNat = 0 := by assumption
        have hk0 : ¬ 0 < k := by assumption
        have hv : Vm.get (bytes s) = (acc + s[k].toNat % 128 * 128 ^ k, k + 1, 0) := by rw [hd.out, bytes, Vm.drop_cons s k hlt, Vm.g_end (by omega) (by omega) (by omega)]
        go_ret3
        have hj := (add_step k acc (s[k].toNat % 128) U (by omega) hk9 hacc.out hU.out (by omega)).1
        rw [hb] at hj hv
        simp at hj
        exact ⟨ret3 (by rw [hv]; simp; exact hj) (by rw [hv]; rfl) (by rw [hv]; rfl), rfl⟩
      · -- the last byte
        have h9 : ¬ (k : Int) = 9 := by assumption
        have hb2 : (s[k].toNat : Int) < 128 := by assumption
        have hb0 : ¬ s[k].toNat = 0 := by assumption
        have hv : Vm.get (bytes s) = (acc + s[k].toNat % 128 * 128 ^ k, k + 1, 0) := by rw [hd.out, bytes, Vm.drop_cons s k hlt, Vm.g_end (by omega) (by omega) (by omega)]
        go_ret3
        have hj := (add_step k acc (s[k].toNat % 128) U (by omega) hk9 hacc.out hU.out (by omega)).1
        rw [show s[k].toNat % 128 = s[k].toNat by omega] at hj hv
        exact ⟨ret3 (by rw [hv]; exact hj) (by rw [hv]; rfl) (by rw [hv]; rfl), rfl⟩
      · -- a byte that goes on
        have h9 : ¬ (k : Int) = 9 := by assumption
        have hb : 128 ≤ (s[k].toNat : Int) := by assumption
        have hv : Vm.get (bytes s) = Vm.getF ((bytes s).drop (k + 1)) (k + 1) (acc + s[k].toNat % 128 * 128 ^ k) := by rw [hd.out, bytes, Vm.drop_cons s k hlt, Vm.g_more (by omega) (by omega)]
        go_round
        case rel =>
          have hj := add_step k acc (s[k].toNat % 128) U (by omega) hk9 hacc.out hU.out (by omega)
          have hm : ((s[k].toNat : Int) - 128) % 256 = ((s[k].toNat % 128 : Nat) : Int) := by have := s[k].toNat_lt; omega
          exact ⟨k + 1, acc + s[k].toNat % 128 * 128 ^ k, 128 ^ (k + 1), by omega, by omega, hj.2 (by omega), by go_num, by rw [hm, hj.1], by rw [unit_step k U (by omega) hU.out], rfl, hv⟩
        case measure => simp [intOf]; omega
    · go_wp2
      have hv : Vm.get (bytes s) = (0, 0, 8) := by rw [hd.out, bytes, Vm.drop_end s k (by omega)]; rfl
      go_ret3
      exact ⟨ret3 (by rw [hv]; rfl) (by rw [hv]; rfl) (by rw [hv]; rfl), rfl⟩

def zigV (x : Int) : Int := if x < 0 then -2 * x - 1 else 2 * x
def zagV (n : Int) : Int := if n % 2 = 0 then n / 2 else - (n / 2) - 1
theorem zig_v (x : Int) (h0 : -9223372036854775808 ≤ x) (h1 : x < 9223372036854775808) (w : World) :
    Calls Try.prog 12 #[.int .i64 x] w fun e w' => e = .returned (.int .u64 (zigV x)) ∧ w = w' := zig_any x h0 h1 w
theorem zag_v (n : Int) (h0 : 0 ≤ n) (h1 : n ≤ 18446744073709551615) (w : World) :
    Calls Try.prog 13 #[.int .u64 n] w fun e w' => e = .returned (.int .i64 (zagV n)) ∧ w = w' := zag_any n h0 h1 w
theorem rzig_v (x : Int) (h0 : -9223372036854775808 ≤ x) (h1 : x < 9223372036854775808) (w : World) :
    Calls Try.prog 17 #[.int .i64 x] w fun e w' => e = .returned (.int .u64 (zigV x)) ∧ w = w' := rzig_any x h0 h1 w
theorem rzag_v (n : Int) (h0 : 0 ≤ n) (h1 : n ≤ 18446744073709551615) (w : World) :
    Calls Try.prog 18 #[.int .u64 n] w fun e w' => e = .returned (.int .i64 (zagV n)) ∧ w = w' := rzag_any n h0 h1 w

theorem VarintTells_walk (n x : Int) (s : ByteArray) (wn : (Lit.int .u64 n).wf = true) (wx : (Lit.int .i64 x).wf = true) (hs : s.size ≤ maxLen) (w : World) :
    Calls Try.prog 4 #[.int .u64 n, .int .i64 x, .string s] w fun e w' => e = .returned (.bool true) ∧ Below w.heap.size w w' := by
  have hn : 0 ≤ n ∧ n ≤ 18446744073709551615 := by simpa [Lit.wf, IntKind.min, IntKind.max, IntKind.signed, IntKind.bits] using wn
  have hx : -9223372036854775808 ≤ x ∧ x ≤ 9223372036854775807 := by simpa [Lit.wf, IntKind.min, IntKind.max, IntKind.signed, IntKind.bits] using wx
  obtain ⟨n, rfl⟩ := Int.eq_ofNat_of_zero_le hn.1
  obtain ⟨hx1, hx2⟩ := hx
  obtain ⟨hn1, hn2⟩ := hn
  have hn' : n < 18446744073709551616 := by omega
  have hx3 : x < 9223372036854775808 := by omega
  clear wn wx
  unfold maxLen at hs
  by_cases hl : 1000 < s.size
  · go_enter Try.func4, Try.ntmps4
    go_wp2_with fail
    go_ret
    exact ⟨rfl, Below.refl _ _⟩
  · go_enter Try.func4, Try.ntmps4
    go_wp2_with fail
    refine (get_any s hs _).mono ?_
    rintro e w' ⟨rfl, rfl⟩
    go_wp2_with fail
    refine (rget_any s hs _).mono ?_
    rintro e w' ⟨rfl, rfl⟩
    go_wp2_with fail
    refine (put_any n hn' _).mono ?_
    rintro e w1 ⟨rfl, b1⟩
    go_wp2_with fail
    refine (rput_any 10 n (by omega) (Vm.lt_pow10 hn') hn' (by omega) _).mono ?_
    rintro e w2 ⟨rfl, b2⟩
    have b12 := b1.trans (b2.mono b1.size)
    rw [show Vm.putF 10 n = Vm.put n from rfl]
    go_wp2_with fail
    refine (zig_v x hx1 hx3 _).mono ?_
    rintro e w' ⟨rfl, rfl⟩
    go_wp2_with fail
    refine (rzig_v x hx1 hx3 _).mono ?_
    rintro e w' ⟨rfl, rfl⟩
    go_wp2_with fail
    refine (zag_v n hn1 hn2 _).mono ?_
    rintro e w' ⟨rfl, rfl⟩
    go_wp2_with fail
    refine (rzag_v n hn1 hn2 _).mono ?_
    rintro e w' ⟨rfl, rfl⟩
    go_wp2_with fail
    go_ret
    exact ⟨rfl, b12⟩

set_option maxRecDepth 100000 in
theorem VarintTells_lifted (os : Os) (started : os.Started) (H : Type) (enc : TypeId × Value → H) :
    ReturnsInHanded {} Try.checked os 4 .any (Rows.varintTellsSpec.pre6 enc Try.prog Try.f4 Rows.varintTellsRow.domain false) (Rows.varintTellsSpec.post enc Try.prog Try.f4 false true false false) := by
  refine returnsInHanded_of_change (C := Try.checked) lift_own started (by kernel_rfl) Try.func4
    (ChangeSpec.witness6 (enc := enc) (C := Try.checked) false ⟨#[], #[.int .u64 0, .int .i64 0, .string ⟨#[]⟩], []⟩ 8 (by kernel_rfl) (by kernel_rfl) (by kernel_rfl) (by kernel_rfl)) ?_
  intro W base args ds gs before hval0 hW hcnd _
  have hval : ∀ (j : Nat) t v, Try.f4.params[j]? = some t → args[j]? = some v → Value.okWide Try.prog W .any base t v := hval0
  have hW' := hW
  obtain ⟨p, q, hA0, hV, rfl, hfz, hnd⟩ := hW
  have hA : DataW.TrodAll enc Try.prog W 0 (fun _ => true) true Try.f4.params.toList args.toList ds p := hA0
  rw [Try.params4] at hA hval
  obtain ⟨v0, vs0, d0, ds0, p0, q0, hargs, rfl, rfl, h0, r0⟩ := trodAll_cons hA
  obtain ⟨v1, vs1, d1, ds1, p1, q1, rfl, rfl, rfl, h1, r1⟩ := trodAll_cons r0
  obtain ⟨v2, vs2, d2, ds2, p2, q2, rfl, rfl, rfl, h2, r2⟩ := trodAll_cons r1
  obtain ⟨rfl, rfl, rfl⟩ := trodAll_nil r2
  obtain rfl : args = #[v0, v1, v2] := by cases args; simp_all
  obtain ⟨rfl, rfl⟩ := trodVars_none hV
  obtain ⟨a0, rfl, rfl, rfl, w0⟩ := open_int Try.underlying25 (hval 0 25 v0 rfl rfl) h0
  obtain ⟨a1, rfl, rfl, rfl, w1⟩ := open_int Try.underlying2 (hval 1 2 v1 rfl rfl) h1
  obtain ⟨a2, rfl, rfl, rfl, w2⟩ := open_string Try.underlying9 (hval 2 9 v2 rfl rfl) h2
  clear hA0 hval0
  simp only [List.append_nil] at hW'
  refine (VarintTells_walk a0 a1 a2 w0 w1 w2 W).mono fun e W' ⟨he, hg⟩ => ?_
  subst he
  exact ⟨_, rfl, lift_post (pa := []) (pv := []) hW' (fun _ _ _ => (trodAll_cons_mk (shut_bool Try.underlying4 _) trodAll_mk0)) (fun sp _ => (trodAll_cons_mk (shut_int Try.underlying25 w0) (trodAll_cons_mk (shut_int Try.underlying2 w1) (trodAll_cons_mk (shut_string Try.underlying9 w2) trodAll_mk0)))) (fun _ _ => rfl) rfl
    hg (ok_one (by kernel_rfl) rfl (okWide_bool_mk Try.underlying4 _))⟩

/-- THE STATEMENT of VarintTells: for every input the call returns true, and each argument reads behind it as before. -/
theorem VarintTells_holds : Rows.VarintTellsSaid :=
  OpenClaim.holds_of_wide 4 Try.f4 rfl rfl rfl rfl rfl rfl rfl ⟨rfl, rfl, rfl, rfl, rfl⟩ rfl rfl rfl rfl rfl (by kernel_rfl) Try.func4 (by kernel_rfl)
    (of_decide_eq_true (by kernel_rfl)) (by unfold Func.isWrapper; first | (rw [if_pos (by decide +kernel)]; kernel_rfl) | (rw [if_neg (by decide +kernel)]; exact ⟨rfl, rfl⟩))
    (fun os started H enc _ => VarintTells_lifted os started H enc)
end Go.Proofs.Ytdhmehciebgblaa
