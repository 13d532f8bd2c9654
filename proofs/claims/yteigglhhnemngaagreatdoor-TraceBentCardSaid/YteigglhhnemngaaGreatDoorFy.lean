/-
  BURSTS: a text of which up to four bytes, one behind the other, are put together with a number's bytes has its sum just if it is the text; a frame that is bent so, behind its length, is refused: ErrSum, at where the sum stands. Conditions: frames of at most 2^24 bytes.
-/
import Derived.Test.YteigglhhnemngaaGreatDoorFb
namespace Go.Proofs.YteigglhhnemngaaGreatDoor.Fm
theorem xor_cancel {a b c : Nat} (h : a ^^^ b = a ^^^ c) : b = c := by
  have : a ^^^ (a ^^^ b) = a ^^^ (a ^^^ c) := by rw [h]
  rwa [← Nat.xor_assoc, ← Nat.xor_assoc, Nat.xor_self, Nat.zero_xor, Nat.zero_xor] at this
theorem xor_add (a b : Nat) (h : a < 256) : a ^^^ (b * 256) = a + b * 256 := by
  apply Nat.eq_of_testBit_eq
  intro j
  have e1 := Nat.testBit_two_pow_mul_add b (i := 8) (b := a) h j
  have e2 := Nat.testBit_two_pow_mul_add b (i := 8) (b := 0) (by decide) j
  rw [show a + b * 256 = 2 ^ 8 * b + a by omega, e1, Nat.testBit_xor, show b * 256 = 2 ^ 8 * b + 0 by omega, e2]
  by_cases hj : j < 8
  · rw [if_pos hj, if_pos hj]; simp
  · rw [if_neg hj, if_neg hj, Nat.testBit_lt_two_pow (Nat.lt_of_lt_of_le h (Nat.pow_le_pow_right (n := 2) (by decide) (show 8 ≤ j by omega)))]
    simp
theorem word_four (n : Nat) (h : n < 4294967296) : word (four n) = n := by
  unfold four word word word word word
  rw [Nat.zero_mul, Nat.xor_zero, xor_add _ _ (by omega), xor_add _ _ (by omega), xor_add _ _ (by omega)]
  omega
theorem sealed (l v : List Nat) (hl : ∀ b ∈ l, b < 256) (hv : v.length = 4) (hb : ∀ b ∈ v, b < 256) : reg 4294967295 (l ++ v) = stN 32 4294967295 ↔ word v = sum l := by
  have hr := reg_lt l (r := 4294967295) (by decide) hl
  have hw : word v < 4294967296 := by have := word_lt v hb; rw [hv] at this; exact this
  rw [reg_append, reg_word, hv]
  have key : stN 32 (reg 4294967295 l ^^^ word v) = stN 32 4294967295 ↔ reg 4294967295 l ^^^ word v = 4294967295 := by
    constructor
    · intro h
      have h2 : stN 32 (reg 4294967295 l ^^^ word v ^^^ 4294967295) = 0 := by rw [stN_xor, h, Nat.xor_self]
      exact xor_eq (stN_zero (Nat.xor_lt_two_pow (n := 32) (Nat.xor_lt_two_pow (n := 32) hr hw) (by decide)) h2)
    · intro h; rw [h]
  rw [show 8 * 4 = 32 from rfl, key]
  unfold sum
  generalize reg 4294967295 l = x
  generalize 4294967295 = f
  constructor
  · intro h
    rw [← h, Nat.xor_comm x, Nat.xor_assoc, Nat.xor_self, Nat.xor_zero]
  · intro h
    rw [h, Nat.xor_comm f, ← Nat.xor_assoc, Nat.xor_self, Nat.zero_xor]
end Go.Proofs.YteigglhhnemngaaGreatDoor.Fm
namespace Go.Proofs.YteigglhhnemngaaGreatDoor
set_option maxRecDepth 100000
open Go.RowKit
set_option linter.unusedVariables false
theorem four_lt (n : Nat) : ∀ b ∈ Fm.four n, b < 256 := by
  intro b hb
  simp [Fm.four] at hb
  omega
theorem nats_bytes (a : ByteArray) : nats a = (bytes a).map (·.toNat) := rfl
def burstL (l : List UInt8) (at_ x : Nat) : List Nat := (List.range (min 4 (l.length - at_))).map fun i => (xb x i).toNat
theorem burst_zip (l : List UInt8) (at_ x : Nat) (h : at_ ≤ l.length) :
    Fm.zip2 (l.map (·.toNat)) ((bentL l at_ x 4).map (·.toNat)) = List.replicate at_ 0 ++ burstL l at_ x ++ List.replicate (l.length - at_ - min 4 (l.length - at_)) 0 := by
  apply List.ext_getElem
  · simp [Fm.zip2, bentL, burstL]
    omega
  intro j h1 h2
  have hj : j < l.length := by simp [Fm.zip2, bentL] at h1; exact h1
  have hx : ∀ a b : Nat, a ^^^ (a ^^^ b) = b := fun a b => by rw [← Nat.xor_assoc, Nat.xor_self, Nat.zero_xor]
  simp only [Fm.zip2, List.getElem_zipWith, List.getElem_map, bentL, List.getElem_mapIdx]
  by_cases hc : at_ ≤ j ∧ j < at_ + 4
  · rw [if_pos hc, UInt8.toNat_xor, hx]
    rw [List.getElem_append_left (by simp [burstL]; omega), List.getElem_append_right (by simp; omega)]
    simp [burstL]
  · rw [if_neg hc, Nat.xor_self]
    by_cases h3 : j < at_
    · rw [List.getElem_append_left (by simp [burstL]; omega), List.getElem_append_left (by simp; omega), List.getElem_replicate]
    · rw [List.getElem_append_right (by simp [burstL]; omega), List.getElem_replicate]
theorem burst_same (l : List UInt8) (at_ x : Nat) (h : ∀ b ∈ burstL l at_ x, b = 0) : bentL l at_ x 4 = l := by
  apply List.ext_getElem (by simp [bentL])
  intro j h1 h2
  simp only [bentL, List.getElem_mapIdx]
  by_cases hc : at_ ≤ j ∧ j < at_ + 4
  · rw [if_pos hc]
    have hz : (xb x (j - at_)).toNat = 0 := h _ (List.mem_map.2 ⟨j - at_, by simp; omega, rfl⟩)
    have hz2 : xb x (j - at_) = 0 := UInt8.toNat_inj.1 hz
    rw [hz2, UInt8.xor_zero]
  · rw [if_neg hc]
theorem burst_reg (r : Nat) (l : List UInt8) (at_ x : Nat) (h : at_ ≤ l.length) (he : Fm.reg r (l.map (·.toNat)) = Fm.reg r ((bentL l at_ x 4).map (·.toNat))) : bentL l at_ x 4 = l :=
  burst_same l at_ x (Fm.unlike r at_ _ _ _ (by simp [bentL]) (burstL l at_ x) (by simp [burstL]; omega) (by
    intro b hb
    obtain ⟨i, _, rfl⟩ := List.mem_map.1 hb
    exact (xb x i).toNat_lt) (burst_zip l at_ x h) he)
theorem bentS_size (s : ByteArray) (at_ x : Nat) : (bentS s at_ x).size = s.size := by rw [← bytes_length, bytes_bentS, bentL_length, bytes_length]
theorem sum_bent (b : ByteArray) (at_ x : Nat) (h : at_ ≤ b.size) (he : Fm.sum (nats (bentS b at_ x)) = Fm.sum (nats b)) : bentS b at_ x = b := by
  apply bytes_inj
  rw [bytes_bentS]
  refine burst_reg 4294967295 (bytes b) at_ x (by rw [bytes_length]; exact h) ?_
  have e := Fm.xor_cancel he
  rw [nats_bytes, nats_bytes, bytes_bentS] at e
  exact e.symm
theorem nats_foot (n : Nat) : nats (footS n) = Fm.four n := by
  simp [nats, footS, Fm.four]
theorem sealed_reg (s : ByteArray) (l : List UInt8) (h : bytes s = l ++ bytes (footS (Fm.sum (l.map (·.toNat))))) : Fm.reg 4294967295 (nats s) = Fm.stN 32 4294967295 := by
  have hl : ∀ b ∈ l.map (·.toNat), b < 256 := by
    intro b hb
    obtain ⟨i, _, rfl⟩ := List.mem_map.1 hb
    exact i.toNat_lt
  rw [nats_bytes, h, List.map_append, ← nats_bytes, nats_foot]
  exact (Fm.sealed _ _ hl rfl (four_lt _)).2 (Fm.word_four _ (sum_lt _ hl))
theorem frame_sealed (b : ByteArray) : Fm.reg 4294967295 (nats (frameS b)) = Fm.stN 32 4294967295 :=
  sealed_reg _ (bytes (numS b.size ++ b)) (by rw [frameS, bytes_append]; rfl)
theorem frame_bent (b : ByteArray) (r x : Nat) (h : (frameS b).size ≤ 16777216) (hr : r ≤ b.size + 4) (hne : bentS (frameS b) ((numS b.size).size + r) x ≠ frameS b) :
    UnwIs (bentS (frameS b) ((numS b.size).size + r) x) ⟨#[]⟩ ((frameS b).size - 4) 9 := by
  have hz := numS_le b.size
  have hf := frame_size b
  have hp := numS_size b.size
  obtain ⟨t, ht⟩ : ∃ t, t = bentS (frameS b) ((numS b.size).size + r) x := ⟨_, rfl⟩
  have hb : bytes t = bentL (bytes (frameS b)) ((numS b.size).size + r) x 4 := by rw [ht, bytes_bentS]
  have hs : t.size = (frameS b).size := by rw [ht, bentS_size]
  have htake : (bytes t).take (numS b.size).size = Vm.put b.size := by
    have e : (bytes t).take (numS b.size).size = (bytes (frameS b)).take (numS b.size).size := by
      apply List.ext_getElem
      · simp [hb, bentL_length]
      intro j h1 h2
      have hj : j < (numS b.size).size := by simp at h1; omega
      simp only [hb, List.getElem_take, bentL, List.getElem_mapIdx]
      rw [if_neg (by omega)]
    rw [e, frame_bytes, List.take_left' (by rw [hp])]
  obtain ⟨m, f, hm, hf4, hmf⟩ : ∃ m f : List UInt8, m.length = b.size ∧ f.length = 4 ∧ bytes t = Vm.put b.size ++ (m ++ f) := by
    refine ⟨((bytes t).drop (numS b.size).size).take b.size, ((bytes t).drop (numS b.size).size).drop b.size, ?_, ?_, ?_⟩
    · rw [List.length_take, List.length_drop, bytes_length, hs, hf]; omega
    · rw [List.length_drop, List.length_drop, bytes_length, hs, hf]; omega
    · rw [List.take_append_drop, ← htake, List.take_append_drop]
  obtain ⟨e1, e2, e3, e4⟩ := opened b.size (by omega) m f hm hf4 t hmf
  have := u_sum t b.size (numS b.size).size (by omega) hz.2 e1 (get_frame b.size (by omega) _ t hmf) (by
    rw [test_bytes, decide_eq_false_iff_not, e2]
    intro hc
    apply hne
    rw [← ht]
    apply bytes_inj
    rw [hb]
    refine burst_reg 4294967295 _ _ x (by rw [bytes_length, hf]; omega) ?_
    rw [← hb, ← nats_bytes, ← nats_bytes, frame_sealed]
    refine (sealed_reg t (Vm.put b.size ++ m) ?_).symm
    rw [nats_bytes, e3] at hc
    rw [← hc, hmf, List.append_assoc])
  rw [← ht]
  rwa [show (numS b.size).size + b.size = (frameS b).size - 4 by omega] at this
end Go.Proofs.YteigglhhnemngaaGreatDoor
