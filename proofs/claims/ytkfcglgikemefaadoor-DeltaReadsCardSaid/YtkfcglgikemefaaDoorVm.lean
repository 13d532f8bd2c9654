/-
  PLAIN MATHEMATICS OF LAYER 1 (numbers as bytes): the bytes of a number, what stands at the beginning of a text, and how the two go together; bit operations as sums. Conditions: numbers below 2^64.
-/
import Derived.Test.YtkfcglgikemefaaDoorRows
import Derived.WalkKit
import Derived.Laws.BitsAllLaws
namespace Go.Proofs.YtkfcglgikemefaaDoor.Vm

/-- The bytes of a number, with fuel. -/
def putF : Nat → Nat → List UInt8
  | 0, _ => []
  | f + 1, n => if n < 128 then [UInt8.ofNat n] else UInt8.ofNat (n % 128 + 128) :: putF f (n / 128)

/-- What stands at the beginning of a list of bytes: k bytes have been gone over, 'acc' is what they tell. (number, size, error) -/
def getF : List UInt8 → Nat → Nat → Nat × Nat × Nat
  | [], _, _ => (0, 0, 8)
  | b :: r, k, acc =>
    if k = 9 ∧ 1 < b.toNat then (0, 0, 20)
    else if 128 ≤ b.toNat then getF r (k + 1) (acc + (b.toNat - 128) * 128 ^ k)
    else if b.toNat = 0 ∧ 0 < k then (0, 0, 11)
    else (acc + b.toNat * 128 ^ k, k + 1, 0)

def put (n : Nat) : List UInt8 := putF 10 n
def get (l : List UInt8) : Nat × Nat × Nat := getF l 0 0

theorem low_toNat (n : Nat) (h : n < 128) : (UInt8.ofNat n).toNat = n := by
  simp [UInt8.toNat_ofNat']; omega
theorem high_toNat (n : Nat) : (UInt8.ofNat (n % 128 + 128)).toNat = n % 128 + 128 := by
  simp [UInt8.toNat_ofNat']; omega

theorem pow_succ' (k : Nat) : 128 ^ (k + 1) = 128 * 128 ^ k := by rw [Nat.pow_succ, Nat.mul_comm]

theorem split_mul (n p : Nat) : n % 128 * p + n / 128 * (128 * p) = n * p := by
  have h := Nat.mod_add_div n 128
  calc n % 128 * p + n / 128 * (128 * p) = (n % 128 + 128 * (n / 128)) * p := by rw [Nat.add_mul, ← Nat.mul_assoc, Nat.mul_comm (n / 128) 128]
    _ = n * p := by rw [h]

theorem pow9 : 128 ^ 9 = 9223372036854775808 := by decide

theorem pow_pos (k : Nat) : 0 < 128 ^ k := Nat.pow_pos (by decide)

theorem nine_of {n k : Nat} (hk : k = 9) (hn : n * 128 ^ k < 18446744073709551616) : n < 2 := by
  subst hk; rw [pow9] at hn; omega

/-- Get of Put, with whatever behind. -/
theorem get_put (f : Nat) : ∀ (n k acc : Nat) (beh : List UInt8), 0 < f → n < 128 ^ f → k ≤ 9 → n * 128 ^ k < 18446744073709551616 → (0 < k → 0 < n) →
    getF (putF f n ++ beh) k acc = (acc + n * 128 ^ k, k + (putF f n).length, 0) := by
  induction f with
  | zero => intro n k acc beh hf; omega
  | succ f ih =>
    intro n k acc beh hf0 hn hk hm h0
    by_cases h : n < 128
    · simp only [putF, if_pos h, List.cons_append, List.nil_append, getF, low_toNat n h, List.length_cons, List.length_nil]
      rw [if_neg (by rintro ⟨hk9, h1⟩; have := nine_of hk9 hm; omega), if_neg (by omega), if_neg (by rintro ⟨a, b⟩; have := h0 b; omega)]
    · have hk9 : k ≠ 9 := by intro e; have := nine_of e hm; omega
      simp only [putF, if_neg h, List.cons_append, getF, high_toNat n, List.length_cons]
      rw [if_neg (by omega), if_pos (by omega)]
      have hs := split_mul n (128 ^ k)
      rw [show n % 128 + 128 - 128 = n % 128 by omega]
      rw [ih (n / 128) (k + 1) _ beh (by rcases f with _ | g; (simp at hn; omega); omega) (by rw [pow_succ'] at hn; omega) (by omega) (by rw [pow_succ']; omega) (by intro _; omega)]
      rw [pow_succ']
      refine Prod.ext ?_ (Prod.ext ?_ rfl)
      · show acc + n % 128 * 128 ^ k + n / 128 * (128 * 128 ^ k) = acc + n * 128 ^ k
        omega
      · show k + 1 + (putF f (n / 128)).length = k + ((putF f (n / 128)).length + 1)
        omega

theorem putF_ne (f n : Nat) : putF (f + 1) n ≠ [] := by
  unfold putF; split <;> simp

/-- Without its last byte: ErrShort. -/
theorem get_short (f : Nat) : ∀ (n k acc : Nat), n < 128 ^ f → k ≤ 9 → n * 128 ^ k < 18446744073709551616 →
    getF (putF f n).dropLast k acc = (0, 0, 8) := by
  induction f with
  | zero => intro n k acc hn hk hm; simp [putF, getF]
  | succ f ih =>
    intro n k acc hn hk hm
    by_cases h : n < 128
    · simp [putF, if_pos h, getF]
    · have hk9 : k ≠ 9 := by intro e; have := nine_of e hm; omega
      have hs := split_mul n (128 ^ k)
      obtain ⟨f, rfl⟩ : ∃ g, f = g + 1 := by
        cases f with
        | zero => simp at hn; omega
        | succ g => exact ⟨g, rfl⟩
      rw [putF, if_neg h, List.dropLast_cons_of_ne_nil (putF_ne _ _)]
      simp only [getF, high_toNat n]
      rw [if_neg (by omega), if_pos (by omega)]
      exact ih _ _ _ (by rw [pow_succ'] at hn; omega) (by omega) (by rw [pow_succ']; omega)

/-- What Get answers. -/
theorem get_shape (l : List UInt8) : ∀ (k acc : Nat), k ≤ 9 → (getF l k acc = (0, 0, 8) ∨ getF l k acc = (0, 0, 20) ∨ getF l k acc = (0, 0, 11)) ∨
    ∃ n size, getF l k acc = (acc + n * 128 ^ k, k + size, 0) ∧ 1 ≤ size ∧ size ≤ l.length ∧ k + size ≤ 10 ∧ (0 < k → 0 < n) ∧ n * 128 ^ k < 18446744073709551616 ∧ ∀ f, 10 ≤ f + k → putF f n = l.take size := by
  induction l with
  | nil => intro k acc hk; simp [getF]
  | cons b r ih =>
    intro k acc hk
    have hb := b.toNat_lt
    unfold getF
    by_cases h1 : k = 9 ∧ 1 < b.toNat
    · rw [if_pos h1]; simp
    rw [if_neg h1]
    by_cases h2 : 128 ≤ b.toNat
    · rw [if_pos h2]
      have hk9 : k ≠ 9 := by intro e; exact h1 ⟨e, by omega⟩
      rcases ih (k + 1) (acc + (b.toNat - 128) * 128 ^ k) (by omega) with h | ⟨n, size, e, s1, s2, s3, hn, hm, hp⟩
      · exact Or.inl h
      · refine Or.inr ⟨b.toNat - 128 + 128 * n, size + 1, ?_, by omega, by simp; omega, by omega, fun _ => by have := hn (by omega); omega, ?_, ?_⟩
        · rw [e, pow_succ']
          refine Prod.ext ?_ (Prod.ext ?_ rfl)
          · show acc + (b.toNat - 128) * 128 ^ k + n * (128 * 128 ^ k) = acc + (b.toNat - 128 + 128 * n) * 128 ^ k
            rw [Nat.add_mul, ← Nat.mul_assoc, Nat.mul_comm n 128]; omega
          · show k + 1 + size = k + (size + 1)
            omega
        · -- below 2^64
          have hle : b.toNat - 128 + 128 * n < 128 * (n + 1) := by omega
          have h3 : (b.toNat - 128 + 128 * n) * 128 ^ k < (128 * (n + 1)) * 128 ^ k := Nat.mul_lt_mul_of_pos_right hle (pow_pos k)
          have h4 : (128 * (n + 1)) * 128 ^ k = (n + 1) * 128 ^ (k + 1) := by rw [pow_succ', ← Nat.mul_assoc, Nat.mul_comm 128 (n + 1)]
          have h5 : (n + 1) * 128 ^ (k + 1) ≤ 18446744073709551616 := by
            have hk8 : k ≤ 8 := by omega
            have : 18446744073709551616 = 2 * 128 ^ (8 - k) * 128 ^ (k + 1) := by
              rw [Nat.mul_assoc, ← Nat.pow_add, show 8 - k + (k + 1) = 9 by omega]
            rw [this] at hm ⊢
            exact Nat.mul_le_mul_right _ (Nat.lt_of_mul_lt_mul_right hm)
          omega
        · intro f hf
          obtain ⟨f, rfl⟩ : ∃ g, f = g + 1 := ⟨f - 1, by omega⟩
          have hn0 := hn (by omega)
          rw [putF, if_neg (by omega), show (b.toNat - 128 + 128 * n) / 128 = n by omega, show (b.toNat - 128 + 128 * n) % 128 + 128 = b.toNat by omega, hp f (by omega)]
          simp
    rw [if_neg h2]
    by_cases h3 : b.toNat = 0 ∧ 0 < k
    · rw [if_pos h3]; simp
    rw [if_neg h3]
    refine Or.inr ⟨b.toNat, 1, rfl, by omega, by simp, by omega, fun h => by omega, ?_, ?_⟩
    · by_cases hk9 : k = 9
      · subst hk9; rw [pow9]; omega
      · have : b.toNat * 128 ^ k < 128 * 128 ^ k := Nat.mul_lt_mul_of_pos_right (by omega) (pow_pos k)
        have h6 : 128 * 128 ^ k ≤ 128 ^ 9 := by rw [← pow_succ']; exact Nat.pow_le_pow_right (by decide) (by omega)
        rw [pow9] at h6; omega
    · intro f hf
      obtain ⟨f, rfl⟩ : ∃ g, f = g + 1 := ⟨f - 1, by omega⟩
      rw [putF, if_pos (by omega)]
      simp

theorem lt_pow10 {n : Nat} (h : n < 18446744073709551616) : n < 128 ^ 10 := by
  have : (128 : Nat) ^ 10 = 1180591620717411303424 := by decide
  omega

/-- More is no shorter. -/
theorem put_mono (f : Nat) : ∀ (a b : Nat), a ≤ b → (putF f a).length ≤ (putF f b).length := by
  induction f with
  | zero => intro a b h; simp [putF]
  | succ f ih =>
    intro a b h
    unfold putF
    by_cases h1 : a < 128
    · rw [if_pos h1]; split <;> simp
    · rw [if_neg h1, if_neg (by omega)]
      simp only [List.length_cons]
      have := ih (a / 128) (b / 128) (by omega)
      omega

theorem put_len (n : Nat) : 1 ≤ (put n).length ∧ (put n).length ≤ 10 := by
  have h : ∀ f n, (putF f n).length ≤ f := by
    intro f
    induction f with
    | zero => intro n; simp [putF]
    | succ f ih => intro n; unfold putF; split
                   · simp
                   · have := ih (n / 128); simp; omega
  refine ⟨?_, h 10 n⟩
  have := putF_ne 9 n
  cases hp : put n with
  | nil => exact absurd hp this
  | cons _ _ => simp

theorem get_put' (n : Nat) (h : n < 18446744073709551616) (beh : List UInt8) : get (put n ++ beh) = (n, (put n).length, 0) := by
  have := get_put 10 n 0 0 beh (by omega) (lt_pow10 h) (by omega) (by simpa using h) (by omega)
  simpa [get, put] using this

/-- None begins by those of another one. -/
theorem put_prefix {a b : Nat} (ha : a < 18446744073709551616) (hb : b < 18446744073709551616) {r : List UInt8} (h : put b = put a ++ r) : a = b := by
  have h1 := get_put' a ha r
  have h2 := get_put' b hb []
  rw [List.append_nil, h, h1] at h2
  exact (Prod.mk.inj h2).1

/-! ### Bits as sums -/
theorem i64_not_any (x : Int) (h0 : -9223372036854775808 ≤ x) (h1 : x < 9223372036854775808) : bits .xor .i64 (-1) x = -1 - x := by
  show IntKind.i64.wrap ((BitVec.ofInt 64 (-1) ^^^ BitVec.ofInt 64 x).toNat : Int) = _
  have e : BitVec.ofInt 64 (-1) = BitVec.allOnes 64 := by decide
  rw [e, BitVec.allOnes_xor, BitVec.toNat_not, BitVec.toNat_ofInt]
  simp [IntKind.wrap, IntKind.bits, IntKind.signed]
  omega

theorem or_one (a : Int) (h0 : 0 ≤ a) (h1 : a < 9223372036854775808) : bits .or .u64 (a * 2) 1 = a * 2 + 1 := by
  obtain ⟨n, rfl⟩ := Int.eq_ofNat_of_zero_le h0
  rw [u64_or _ _ (by omega) (by omega) (by omega) (by omega), show ((n : Int) * 2).toNat = n * 2 by omega, show (1 : Int).toNat = 1 by decide, nat_join 1 _ _ (by omega) (by decide)]
  omega

theorem and_one (a : Int) (h0 : 0 ≤ a) (h1 : a < 18446744073709551616) : bits .and .u64 a 1 = a % 2 := by
  obtain ⟨n, rfl⟩ := Int.eq_ofNat_of_zero_le h0
  rw [u64_and _ _ (by omega) (by omega) (by omega) (by omega), show (1 : Int).toNat = 1 by decide, nat_mask1]
  omega

theorem and_127 (a : Int) (h0 : 0 ≤ a) (h1 : a < 18446744073709551616) : bits .and .u64 a 127 = a % 128 := by
  obtain ⟨n, rfl⟩ := Int.eq_ofNat_of_zero_le h0
  rw [u64_and _ _ (by omega) (by omega) (by omega) (by omega), show (127 : Int).toNat = 127 by decide, nat_mask7]
  omega

theorem and_127_u8 (a : Int) (h0 : 0 ≤ a) (h1 : a < 256) : bits .and .u8 a 127 = a % 128 := by
  obtain ⟨n, rfl⟩ := Int.eq_ofNat_of_zero_le h0
  rw [u8_and _ _ (by omega) (by omega) (by omega) (by omega), show (127 : Int).toNat = 127 by decide, nat_mask7]
  omega

theorem or_128_u8 (a : Int) (h0 : 0 ≤ a) (h1 : a < 128) : bits .or .u8 a 128 = a + 128 := by
  obtain ⟨n, rfl⟩ := Int.eq_ofNat_of_zero_le h0
  rw [u8_or _ _ (by omega) (by omega) (by omega) (by omega), show (128 : Int).toNat = 128 by decide, Nat.or_comm, nat_join 7 _ _ (by decide) (by omega)]
  omega

theorem or_join (k acc x : Nat) (ha : acc < 2 ^ k) (hs : acc + x * 2 ^ k < 18446744073709551616) : bits .or .u64 (acc : Int) ((x * 2 ^ k : Nat) : Int) = ((acc + x * 2 ^ k : Nat) : Int) := by
  rw [u64_or_nat _ _ (by omega) (by omega), Nat.or_comm, nat_join k _ _ (Nat.mul_mod_left _ _) ha, Nat.add_comm]

theorem pow_two (k : Nat) : 2 ^ (7 * k) = 128 ^ k := by rw [Nat.pow_mul]

/-- A byte's seven bits are joined to what is told already. -/
theorem join_step (k acc : Nat) (b : Nat) (hb : b < 256) (hk : k ≤ 9) (hacc : acc < 128 ^ k) (h9 : k = 9 → b ≤ 1) (P : Int) (hP : P = 2 ^ (7 * k)) :
    bits .or .u64 (acc : Int) (IntKind.u64.wrap (IntKind.u64.wrap (bits .and .u8 (b : Int) 127) * P)) = ((acc + b % 128 * 128 ^ k : Nat) : Int) ∧ (k < 9 → acc + b % 128 * 128 ^ k < 128 ^ (k + 1)) := by
  have hP' : P = ((2 ^ (7 * k) : Nat) : Int) := by rw [hP]; simp
  have hlt : k < 9 → acc + b % 128 * 128 ^ k < 128 ^ (k + 1) := by
    intro _
    have h1 : b % 128 * 128 ^ k ≤ 127 * 128 ^ k := Nat.mul_le_mul_right _ (by omega)
    rw [pow_succ']; omega
  have hs : acc + b % 128 * 2 ^ (7 * k) < 18446744073709551616 := by
    rw [pow_two]
    by_cases hk9 : k = 9
    · have := h9 hk9
      subst hk9
      rw [pow9] at hacc ⊢
      have : b % 128 ≤ 1 := by omega
      omega
    · have h3 : 128 ^ (k + 1) ≤ 128 ^ 9 := Nat.pow_le_pow_right (by decide) (by omega)
      rw [pow9] at h3
      have := hlt (by omega)
      omega
  refine ⟨?_, hlt⟩
  rw [and_127_u8 _ (by omega) (by omega), IntWalk.u64_in ((b : Int) % 128) ⟨by omega, by omega⟩, hP', show ((b : Int) % 128) * ((2 ^ (7 * k) : Nat) : Int) = ((b % 128 * 2 ^ (7 * k) : Nat) : Int) by rw [Int.natCast_mul]; rfl]
  rw [IntWalk.u64_in _ ⟨by omega, by omega⟩, or_join _ _ _ (by rw [pow_two]; exact hacc) hs, pow_two]

theorem g_range {b : UInt8} {r : List UInt8} {k acc : Nat} (hk : k = 9) (hb : 1 < b.toNat) : getF (b :: r) k acc = (0, 0, 20) := by
  rw [getF, if_pos ⟨hk, hb⟩]
theorem g_more {b : UInt8} {r : List UInt8} {k acc : Nat} (hk : k ≠ 9) (hb : 128 ≤ b.toNat) : getF (b :: r) k acc = getF r (k + 1) (acc + b.toNat % 128 * 128 ^ k) := by
  have := b.toNat_lt
  rw [getF, if_neg (by omega), if_pos hb, show b.toNat % 128 = b.toNat - 128 by omega]
theorem g_wide {b : UInt8} {r : List UInt8} {k acc : Nat} (hk : 0 < k) (hb : b.toNat = 0) : getF (b :: r) k acc = (0, 0, 11) := by
  rw [getF, if_neg (by omega), if_neg (by omega), if_pos ⟨hb, hk⟩]
theorem g_end {b : UInt8} {r : List UInt8} {k acc : Nat} (hb : b.toNat < 128) (h9 : k = 9 → b.toNat ≤ 1) (h0 : b.toNat = 0 → k = 0) : getF (b :: r) k acc = (acc + b.toNat % 128 * 128 ^ k, k + 1, 0) := by
  rw [getF, if_neg (by omega), if_neg (by omega), if_neg (by omega), Nat.mod_eq_of_lt hb]
theorem drop_cons (s : ByteArray) (k : Nat) (h : k < s.size) : s.data.toList.drop k = s[k] :: s.data.toList.drop (k + 1) := by
  rw [List.drop_eq_getElem_cons (by simpa using h)]; rfl
theorem drop_end (s : ByteArray) (k : Nat) (h : s.size ≤ k) : s.data.toList.drop k = [] := List.drop_eq_nil_of_le (by simpa using h)

end Go.Proofs.YtkfcglgikemefaaDoor.Vm
