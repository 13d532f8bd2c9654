/-
  PLAIN, FOR TraceBent: what a frame begins by, and a frame with more behind. No condition but sizes.
-/
import Derived.Test.YteigglhhnemngaaGreatDoorTrl
namespace Go.Proofs.YteigglhhnemngaaGreatDoor
set_option maxRecDepth 100000
open Go.RowKit Go.Deep
set_option linter.unusedVariables false
set_option linter.unusedSimpArgs false
theorem put_hi (f : Nat) : ∀ n, n < 128 ^ f → ∀ j (hj : j < (Vm.putF f n).length), (j + 1 < (Vm.putF f n).length → 128 ≤ ((Vm.putF f n)[j]).toNat) ∧ (j + 1 = (Vm.putF f n).length → ((Vm.putF f n)[j]).toNat < 128) := by
  induction f with
  | zero => intro n hn j hj; simp [Vm.putF] at hj
  | succ f ih =>
    intro n hn j hj
    by_cases h : n < 128
    · have e : Vm.putF (f + 1) n = [UInt8.ofNat n] := by simp [Vm.putF, h]
      have hj0 : j = 0 := by rw [e] at hj; simpa using hj
      subst hj0
      simp only [e]
      exact ⟨fun h1 => by simp at h1, fun _ => by show (UInt8.ofNat n).toNat < 128; rw [Vm.low_toNat n h]; exact h⟩
    · have e : Vm.putF (f + 1) n = UInt8.ofNat (n % 128 + 128) :: Vm.putF f (n / 128) := by simp [Vm.putF, h]
      simp only [e]
      rw [e] at hj
      cases j with
      | zero =>
        refine ⟨fun _ => by show 128 ≤ (UInt8.ofNat (n % 128 + 128)).toNat; rw [Vm.high_toNat]; omega, fun h1 => ?_⟩
        obtain ⟨g, rfl⟩ : ∃ g, f = g + 1 := by
          cases f with
          | zero => simp at hn; omega
          | succ g => exact ⟨g, rfl⟩
        have := List.eq_nil_of_length_eq_zero (l := Vm.putF (g + 1) (n / 128)) (by simpa using h1.symm)
        exact absurd this (Vm.putF_ne _ _)
      | succ j =>
        have hj2 : j < (Vm.putF f (n / 128)).length := by simpa using hj
        have := ih (n / 128) (by rw [Vm.pow_succ'] at hn; omega) j hj2
        simp only [List.length_cons, List.getElem_cons_succ]
        exact ⟨fun h1 => this.1 (by omega), fun h1 => this.2 (by omega)⟩
theorem get_take (f : Nat) : ∀ (n k acc m : Nat), n < 128 ^ f → k ≤ 9 → n * 128 ^ k < 18446744073709551616 → m < (Vm.putF f n).length → Vm.getF ((Vm.putF f n).take m) k acc = (0, 0, 8) := by
  induction f with
  | zero => intro n k acc m hn hk hm hl; simp [Vm.putF] at hl
  | succ f ih =>
    intro n k acc m hn hk hm hl
    cases m with
    | zero => simp [Vm.getF]
    | succ m =>
      by_cases h : n < 128
      · simp [Vm.putF, h] at hl
      · have e : Vm.putF (f + 1) n = UInt8.ofNat (n % 128 + 128) :: Vm.putF f (n / 128) := by simp [Vm.putF, h]
        have hk9 : k ≠ 9 := by intro e; have := Vm.nine_of e hm; omega
        have hs := Vm.split_mul n (128 ^ k)
        rw [e] at hl ⊢
        rw [List.take_succ_cons]
        simp only [Vm.getF, Vm.high_toNat n]
        rw [if_neg (by omega), if_pos (by omega)]
        exact ih _ _ _ _ (by rw [Vm.pow_succ'] at hn; omega) (by omega) (by rw [Vm.pow_succ']; omega) (by simpa using hl)
theorem frame_pre (b t : ByteArray) (m : Nat) (h : (frameS b).size ≤ 16777216) (hm : m < (frameS b).size) (ht : bytes t = (bytes (frameS b)).take m) : ∃ place, UnwIs t ⟨#[]⟩ place 8 := by
  have hfs := frame_size b
  have hp := numS_size b.size
  have hl := numS_le b.size
  have hts : t.size = m := by rw [← bytes_length, ht, List.length_take, bytes_length]; omega
  by_cases hd : m < (Vm.put b.size).length
  · refine ⟨0, u_bad t 8 (by decide) (by omega) ?_⟩
    rw [ht, frame_bytes, List.take_append_of_le_length (by omega)]
    exact get_take 10 b.size 0 0 m (by have : b.size ≤ 16777216 := by omega
                                       exact Nat.lt_of_le_of_lt this (by decide)) (by decide) (by omega) hd
  · refine ⟨_, u_short t b.size (numS b.size).size (by omega) (by omega) (by omega) (by omega) (get_frame b.size (by omega) ((bytes b ++ bytes (footS (Fm.sum (nats (numS b.size ++ b))))).take (m - (Vm.put b.size).length)) t ?_)⟩
    rw [ht, frame_bytes, List.take_append, List.take_of_length_le (by omega)]
theorem frame_behind (b t x : ByteArray) (hx : 0 < x.size) (ht : bytes t = bytes (frameS b) ++ bytes x) (h : t.size ≤ 16777216) : ∃ place, UnwIs t ⟨#[]⟩ place 10 := by
  have hfs := frame_size b
  have hl := numS_le b.size
  have hts : t.size = (frameS b).size + x.size := by rw [← bytes_length, ht, List.length_append, bytes_length, bytes_length]
  exact ⟨_, u_long t b.size (numS b.size).size h (by omega) (by omega) (by omega) (get_frame b.size (by omega) ((bytes b ++ bytes (footS (Fm.sum (nats (numS b.size ++ b))))) ++ bytes x) t (by rw [ht, frame_bytes, List.append_assoc]))⟩
theorem frame_head (b : ByteArray) (h : b.size ≤ 16777216) (j : Nat) (hj : j < (numS b.size).size) : ∃ hs : j < (bytes (frameS b)).length, (j + 1 < (numS b.size).size → 128 ≤ ((bytes (frameS b))[j]).toNat) ∧ (j + 1 = (numS b.size).size → ((bytes (frameS b))[j]).toNat < 128) := by
  have hp := numS_size b.size
  have hb := frame_bytes b
  have hfs := frame_size b
  have hj2 : j < (Vm.put b.size).length := by omega
  refine ⟨by rw [bytes_length]; omega, ?_⟩
  have e : ∀ hs : j < (bytes (frameS b)).length, (bytes (frameS b))[j] = (Vm.put b.size)[j] := fun hs => by
    simp only [hb]
    exact List.getElem_append_left hj2
  rw [e, hp]
  exact put_hi 10 b.size (Nat.lt_of_le_of_lt h (by decide)) j hj2
end Go.Proofs.YteigglhhnemngaaGreatDoor
