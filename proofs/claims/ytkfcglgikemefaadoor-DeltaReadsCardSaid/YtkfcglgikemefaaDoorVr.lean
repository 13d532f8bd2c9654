/-
  CONTRACTS OF seesawref01 (the document's own answers of layer 1): Put, Get: what each answers, in the same words as the contracts of package varint. Conditions: integers within their kinds, texts shorter than 2^63 bytes.
-/
import Derived.Test.YtkfcglgikemefaaDoorVc
import Derived.Deep.RegionWith
import Derived.Lib.Strings
namespace Go.Proofs.YtkfcglgikemefaaDoor
set_option maxRecDepth 100000
open Go.ChangeShapes Go.WideShapes Go.ChangeAt Go.RowKit Go.ChangeMaps
set_option linter.unusedVariables false
theorem conv_one (a : Addr) (x : Nat) (hx : x < 256) (wx : World) (h : wx.cell? a = some (.int .u8 x)) :
    (convert 83 9 (.slice (some a) 1 1)).run Tryd.prog wx = .ok (.string ⟨#[UInt8.ofNat x]⟩) wx := by
  have := run_convert_bytes_back (P := Tryd.prog) wx 83 9 5 a 1 [UInt8.ofNat x] u_bytes u_byte u_string (fun j hj => by
    obtain rfl : j = 0 := by simp at hj; omega
    rw [show a.add 0 = a from rfl, h]
    have e : (UInt8.ofNat x).toNat = x := by simp [UInt8.toNat_ofNat']; omega
    simp [e])
  exact this

set_option maxRecDepth 100000 in
theorem rput_low (n : Nat) (hn : n < 128) (w : World) :
    Calls Tryd.prog 68 #[.int .u64 n] w fun e w' => e = .returned (.string ⟨#[UInt8.ofNat n]⟩) ∧ Below w.heap.size w w' := by
  have hc := conv_one ⟨w.heap.size, 0, none⟩ n (by omega) (w.alloc (.cells #[.int .u8 n] 5)) (by rw [cell_new]; rfl)
  go_enter Tryd.func68, Tryd.ntmps68
  go_wp2_with fail
  go_ret
  exact ⟨rfl, by go_grown⟩

theorem cell_after {w w3 : World} {v : Value} {t : TypeId} (h : Below (w.alloc (.cells #[v] t)).drew.heap.size (w.alloc (.cells #[v] t)).drew w3) : w3.cell? ⟨w.heap.size, 0, none⟩ = some v := by
  have e := h.cell (p := ⟨w.heap.size, 0, none⟩) (by simp)
  rw [e]
  exact cell_new w #[v] t 0
theorem below_first {w w3 : World} {o : Obj} (h : Below (w.alloc o).drew.heap.size (w.alloc o).drew w3) : Below w.heap.size w w3 :=
  (((Below.refl _ _).alloc (Nat.le_refl _) o).drew).trans (h.mono (by simp))
theorem below_then {w w3 : World} (h : Below w.drew.heap.size w.drew w3) (o : Obj) : Below w.heap.size w (w3.alloc o) :=
  (((Below.refl _ _).drew).trans (h.mono (by simp))).alloc (by simpa using h.size) o
set_option maxRecDepth 100000 in
theorem rput_high (n : Nat) (hn : 128 ≤ n) (h1 : n < 18446744073709551616) (w : World) (r : ByteArray) (hr : r.size ≤ 100) (c : UInt8) (hcn : c.toNat = n % 128 + 128)
    (ih : ∀ wx, Calls Tryd.prog 68 #[.int .u64 ((n : Int) / 128)] wx fun e w' => e = .returned (.string r) ∧ Below wx.heap.size wx w') :
    Calls Tryd.prog 68 #[.int .u64 n] w fun e w' => e = .returned (.string (⟨#[c]⟩ ++ r)) ∧ Below w.heap.size w w' := by
  have Ih : Hid (∀ wx, Calls Tryd.prog 68 #[.int .u64 ((n : Int) / 128)] wx fun e w' => e = .returned (.string r) ∧ Below wx.heap.size wx w') := ih
  clear ih
  go_enter Tryd.func68, Tryd.ntmps68
  go_wp2_with fail
  have hs1 : (⟨#[c]⟩ : ByteArray).size = 1 := rfl
  have e0 : (n : Int).tmod 128 = (n : Int) % 128 := Int.tmod_eq_emod_of_nonneg (by omega)
  have e4 : IntKind.u64.wrap ((n : Int) / 128) = (n : Int) / 128 := IntWalk.u64_in _ ⟨by omega, by omega⟩
  have e1 : IntKind.u64.wrap ((n : Int) % 128 + 128) = (n : Int) % 128 + 128 := IntWalk.u64_in _ ⟨by omega, by omega⟩
  have e2 : IntKind.u8.wrap ((n : Int) % 128 + 128) = (n : Int) % 128 + 128 := IntWalk.u8_in _ ⟨by omega, by omega⟩
  have e3 : ((n : Int) % 128 + 128) % 256 = (n : Int) % 128 + 128 := by omega
  have hc : ∀ (b : Nat) (wx : World), wx.cell? ⟨b, 0, none⟩ = some (.int .u8 ((n : Int) % 128 + 128)) → (convert 83 9 (.slice (some ⟨b, 0, none⟩) 1 1)).run Tryd.prog wx = .ok (.string ⟨#[c]⟩) wx := fun b wx h => by
    have e5 := conv_one ⟨b, 0, none⟩ c.toNat c.toNat_lt wx (by rw [h, hcn]; rfl)
    simpa using e5
  clear hcn
  go_region_with (first | (go_at_call 68; refine (Ih.out _).mono ?_; rintro e w3 ⟨rfl, b3⟩; try (have hc3 := cell_after b3)))
  all_goals go_wp2_with fail
  all_goals go_ret
  all_goals first | exact ⟨rfl, below_first b3⟩ | exact ⟨rfl, below_then b3 _⟩

theorem rput_any (f : Nat) : ∀ (n : Nat), 0 < f → n < 128 ^ f → n < 18446744073709551616 → f ≤ 10 → ∀ w : World,
    Calls Tryd.prog 68 #[.int .u64 n] w fun e w' => e = .returned (.string ⟨(Vm.putF f n).toArray⟩) ∧ Below w.heap.size w w' := by
  induction f with
  | zero => intro n h; omega
  | succ f ih =>
    intro n _ hn h64 hf w
    by_cases hl : n < 128
    · rw [Vm.putF, if_pos hl]
      exact rput_low n hl w
    · have hf0 : 0 < f := by
        rcases f with _ | g
        · simp at hn; omega
        · omega
      have hlen : ∀ g m, (Vm.putF g m).length ≤ g := by
        intro g
        induction g with
        | zero => intro m; simp [Vm.putF]
        | succ g ihg =>
          intro m; unfold Vm.putF; split
          · simp
          · have := ihg (m / 128); simp; omega
      rw [Vm.putF, if_neg hl]
      have hi := ih (n / 128) hf0 (by rw [Vm.pow_succ'] at hn; omega) (by omega) (by omega)
      have ec : ((n / 128 : Nat) : Int) = (n : Int) / 128 := by omega
      rw [ec] at hi
      have := rput_high n (by omega) h64 w ⟨(Vm.putF f (n / 128)).toArray⟩ (by have := hlen f (n / 128); simp [ByteArray.size]; omega) (UInt8.ofNat (n % 128 + 128)) (Vm.high_toNat n) hi
      refine this.mono fun e w' ⟨he, hb⟩ => ⟨?_, hb⟩
      rw [he]
      have ea : ∀ (c : UInt8) (l : List UInt8), (⟨#[c]⟩ : ByteArray) ++ ⟨l.toArray⟩ = ⟨(c :: l).toArray⟩ := by
        intro c l
        apply ByteArray.ext
        simp [ByteArray.data_append]
      rw [ea]

theorem add_step (k acc b U : Nat) (hb : b < 128) (hk : k ≤ 9) (hacc : acc < 128 ^ k) (hU : U = 128 ^ k) (h9 : k = 9 → b ≤ 1) :
    IntKind.u64.wrap ((acc : Int) + IntKind.u64.wrap ((b : Int) * (U : Int))) = ((acc + b * 128 ^ k : Nat) : Int) ∧ (k < 9 → acc + b * 128 ^ k < 128 ^ (k + 1)) := by
  subst hU
  have hlt : k < 9 → acc + b * 128 ^ k < 128 ^ (k + 1) := by
    intro _
    have h1 : b * 128 ^ k ≤ 127 * 128 ^ k := Nat.mul_le_mul_right _ (by omega)
    rw [Vm.pow_succ']; omega
  have hs : acc + b * 128 ^ k < 18446744073709551616 := by
    by_cases hk9 : k = 9
    · have := h9 hk9
      subst hk9
      rw [Vm.pow9] at hacc ⊢
      omega
    · have h3 : 128 ^ (k + 1) ≤ 128 ^ 9 := Nat.pow_le_pow_right (by decide) (by omega)
      rw [Vm.pow9] at h3
      have := hlt (by omega)
      omega
  refine ⟨?_, hlt⟩
  have ec : (b : Int) * ((128 ^ k : Nat) : Int) = ((b * 128 ^ k : Nat) : Int) := (Int.natCast_mul _ _).symm
  rw [ec, IntWalk.u64_in ((b * 128 ^ k : Nat) : Int) ⟨by omega, by omega⟩, IntWalk.u64_in _ ⟨by omega, by omega⟩]
  omega
theorem unit_step (k U : Nat) (hk : k < 9) (hU : U = 128 ^ k) : IntKind.u64.wrap ((U : Int) * 128) = ((128 ^ (k + 1) : Nat) : Int) := by
  subst hU
  have h3 : 128 ^ (k + 1) ≤ 128 ^ 9 := Nat.pow_le_pow_right (by decide) (by omega)
  rw [Vm.pow9] at h3
  have e := Vm.pow_succ' k
  rw [IntWalk.u64_in _ ⟨by omega, by omega⟩]
  omega

set_option maxRecDepth 100000 in
theorem rget_any (s : ByteArray) (hs : s.size ≤ 9223372036854775807) (w : World) :
    Calls Tryd.prog 91 #[.string s] w fun e w' => e = .returned (.tuple #[.int .u64 (Vm.get (bytes s)).1, .int .i64 (Vm.get (bytes s)).2.1, .int .i64 (Vm.get (bytes s)).2.2]) ∧ w = w' := by
  go_enter Tryd.func91, Tryd.ntmps91
  go_wp2
  go_loop [5, 6, 7] (fun n u i => ∃ k acc U : Nat, k ≤ s.size ∧ k ≤ 9 ∧ Hid (acc < 128 ^ k) ∧ i = .int .i64 k ∧ n = .int .u64 acc ∧ u = .int .u64 (U : Nat) ∧ Hid (U = 128 ^ k) ∧ Hid (Vm.get (bytes s) = Vm.getF ((bytes s).drop k) k acc)) (fun _ _ i => s.size - (intOf i).toNat)
  case atStart => exact ⟨0, 0, 1, by omega, by omega, by exact (by simp : 0 < 128 ^ 0), rfl, rfl, rfl, by exact (rfl : 1 = 128 ^ 0), by exact (rfl : Vm.get (bytes s) = _)⟩
  case round =>
    obtain ⟨k, acc, U, hk, hk9, hacc, rfl, rfl, rfl, hU, hd⟩ := hrel
    by_cases hlt : k < s.size
    · go_wp2
      · -- the tenth byte is above 1
        have h9 : (k : Int) = 9 := by assumption
        have hb : 1 < (s[k].toNat : Int) := by assumption
        have hv : Vm.get (bytes s) = (0, 0, 20) := by rw [hd.out, bytes, Vm.drop_cons s k hlt, Vm.g_range (by omega) (by omega)]
        go_ret3
        exact ⟨ret3 (by rw [hv]; rfl) (by rw [hv]; rfl) (by rw [hv]; rfl), rfl⟩
      · -- the last byte is 0, and the tenth
        have h9 : (k : Int) = 9 := by assumption
        have hb : s[k].toNat = 0 := by assumption
        have hv : Vm.get (bytes s) = (0, 0, 11) := by rw [hd.out, bytes, Vm.drop_cons s k hlt, Vm.g_wide (by omega) hb]
        go_ret3
        exact ⟨ret3 (by rw [hv]; rfl) (by rw [hv]; rfl) (by rw [hv]; rfl), rfl⟩
      · -- the tenth byte is 1
        have h9 : (k : Int) = 9 := by assumption
        have hb1 : (s[k].toNat : Int) ≤ 1 := by assumption
        have hb0 : ¬ s[k].toNat = 0 := by assumption
        have hv : Vm.get (bytes s) = (acc + s[k].toNat % 128 * 128 ^ k, k + 1, 0) := by rw [hd.out, bytes, Vm.drop_cons s k hlt, Vm.g_end (by omega) (by omega) (by omega)]
        go_ret3
        have hj := (add_step k acc (s[k].toNat % 128) U (by omega) hk9 hacc.out hU.out (by omega)).1
        rw [show s[k].toNat % 128 = s[k].toNat by omega] at hj hv
        exact ⟨ret3 (by rw [hv]; exact hj) (by rw [hv]; show (10 : Int) = ((k + 1 : Nat) : Int); omega) (by rw [hv]; rfl), rfl⟩
      · -- the last byte is 0, and not the first
        have hb : s[k].toNat = 0 := by assumption
        have hk0 : 0 < k := by assumption
        have hv : Vm.get (bytes s) = (0, 0, 11) := by rw [hd.out, bytes, Vm.drop_cons s k hlt, Vm.g_wide (by omega) hb]
        go_ret3
        exact ⟨ret3 (by rw [hv]; rfl) (by rw [hv]; rfl) (by rw [hv]; rfl), rfl⟩
      · -- the first byte is 0
        have hb : s[k].toNat = 0 := by assumption
        have hk0 : ¬ 0 < k := by assumption
        have hv : Vm.get (bytes s) = (acc + s[k].toNat % 128 * 128 ^ k, k + 1, 0) := by rw [hd.out, bytes, Vm.drop_cons s k hlt, Vm.g_end (by omega) (by omega) (by omega)]
        go_ret3
        have hj := (add_step k acc (s[k].toNat % 128) U (by omega) hk9 hacc.out hU.out (by omega)).1
        rw [hb] at hj hv
        simp at hj
        exact ⟨ret3 (by rw [hv]; simp; exact hj) (by rw [hv]; rfl) (by rw [hv]; rfl), rfl⟩
      · -- the last byte
        have h9 : ¬ (k : Int) = 9 := by assumption
        have hb2 : (s[k].toNat : Int) < 128 := by assumption
        have hb0 : ¬ s[k].toNat = 0 := by assumption
        have hv : Vm.get (bytes s) = (acc + s[k].toNat % 128 * 128 ^ k, k + 1, 0) := by rw [hd.out, bytes, Vm.drop_cons s k hlt, Vm.g_end (by omega) (by omega) (by omega)]
        go_ret3
        have hj := (add_step k acc (s[k].toNat % 128) U (by omega) hk9 hacc.out hU.out (by omega)).1
        rw [show s[k].toNat % 128 = s[k].toNat by omega] at hj hv
        exact ⟨ret3 (by rw [hv]; exact hj) (by rw [hv]; rfl) (by rw [hv]; rfl), rfl⟩
      · -- a byte that goes on
        have h9 : ¬ (k : Int) = 9 := by assumption
        have hb : 128 ≤ (s[k].toNat : Int) := by assumption
        have hv : Vm.get (bytes s) = Vm.getF ((bytes s).drop (k + 1)) (k + 1) (acc + s[k].toNat % 128 * 128 ^ k) := by rw [hd.out, bytes, Vm.drop_cons s k hlt, Vm.g_more (by omega) (by omega)]
        go_round
        case rel =>
          have hj := add_step k acc (s[k].toNat % 128) U (by omega) hk9 hacc.out hU.out (by omega)
          have hm : ((s[k].toNat : Int) - 128) % 256 = ((s[k].toNat % 128 : Nat) : Int) := by have := s[k].toNat_lt; omega
          exact ⟨k + 1, acc + s[k].toNat % 128 * 128 ^ k, 128 ^ (k + 1), by omega, by omega, hj.2 (by omega), by go_num, by rw [hm, hj.1], by rw [unit_step k U (by omega) hU.out], rfl, hv⟩
        case measure => simp [intOf]; omega
    · go_wp2
      have hv : Vm.get (bytes s) = (0, 0, 8) := by rw [hd.out, bytes, Vm.drop_end s k (by omega)]; rfl
      go_ret3
      exact ⟨ret3 (by rw [hv]; rfl) (by rw [hv]; rfl) (by rw [hv]; rfl), rfl⟩

end Go.Proofs.YtkfcglgikemefaaDoor
