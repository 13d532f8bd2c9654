/-
  SEVERAL TEXTS IN ONE (a claim has sixty files at most): Rc, Vm, Vc, Vr, Bs, Vz, Vrz, Bm: the head of each stands ahead of it. No condition but theirs.
-/
import Derived.Test.YteigglhhnemngaaGreatDoorRows
import Derived.WalkKit
import Derived.Laws.BitsAllLaws
import Derived.Handy
import Derived.PlainAid
import Derived.LoopTactic
import Derived.Laws.IdiomStrings
import Derived.WalkLawsBesides
import Derived.WalkSpells
import Derived.Deep.RegionWith
import Derived.Lib.Strings
import Derived.Shelf.LaysM
import Derived.Shelf.Strconv.Clone
import Derived.Lib.AppendStr
import Derived.Lib.Hide
import Derived.Deep.Draws
namespace Go.Proofs.YteigglhhnemngaaGreatDoor
set_option maxRecDepth 100000
open Go.RowKit
set_option linter.unusedVariables false
def rowC (n : Nat) (c : Nat → Int) : Array Value := ((List.range n).map fun j => Value.int .i64 (c j)).toArray
def put (c : Nat → Int) (i : Nat) (v : Int) : Nat → Int := fun j => if j = i then v else c j
theorem rowC_size (n : Nat) (c : Nat → Int) : (rowC n c).size = n := by simp [rowC]
theorem rowC_get (n : Nat) (c : Nat → Int) {i : Nat} (h : i < n) : (rowC n c)[i]? = some (.int .i64 (c i)) := by
  simp [rowC, h]
theorem rowC_set (n : Nat) (c : Nat → Int) {i : Nat} (h : i < n) (v : Int) : (rowC n c).setIfInBounds i (.int .i64 v) = rowC n (put c i v) := by
  apply Array.ext_getElem?
  intro j
  by_cases hji : j = i
  · subst hji
    rw [Array.getElem?_setIfInBounds_self_of_lt (by rw [rowC_size]; exact h), rowC_get n _ h]
    simp [put]
  · rw [Array.getElem?_setIfInBounds_ne (by omega)]
    by_cases hj : j < n
    · rw [rowC_get n _ hj, rowC_get n _ hj]
      simp [put, hji]
    · rw [Array.getElem?_eq_none (by rw [rowC_size]; omega), Array.getElem?_eq_none (by rw [rowC_size]; omega)]
theorem rowC_congr {n : Nat} {c c' : Nat → Int} (h : ∀ j, j < n → c j = c' j) : rowC n c = rowC n c' := by
  unfold rowC
  congr 1
  refine List.map_congr_left fun j hj => ?_
  rw [h j (List.mem_range.1 hj)]
end Go.Proofs.YteigglhhnemngaaGreatDoor
namespace Go.Proofs.YteigglhhnemngaaGreatDoor.Vm
def putF : Nat → Nat → List UInt8
  | 0, _ => []
  | f + 1, n => if n < 128 then [UInt8.ofNat n] else UInt8.ofNat (n % 128 + 128) :: putF f (n / 128)
def getF : List UInt8 → Nat → Nat → Nat × Nat × Nat
  | [], _, _ => (0, 0, 8)
  | b :: r, k, acc =>
    if k = 9 ∧ 1 < b.toNat then (0, 0, 20)
    else if 128 ≤ b.toNat then getF r (k + 1) (acc + (b.toNat - 128) * 128 ^ k)
    else if b.toNat = 0 ∧ 0 < k then (0, 0, 11)
    else (acc + b.toNat * 128 ^ k, k + 1, 0)
def put (n : Nat) : List UInt8 := putF 10 n
def get (l : List UInt8) : Nat × Nat × Nat := getF l 0 0
theorem low_toNat (n : Nat) (h : n < 128) : (UInt8.ofNat n).toNat = n := by
  simp [UInt8.toNat_ofNat']; omega
theorem high_toNat (n : Nat) : (UInt8.ofNat (n % 128 + 128)).toNat = n % 128 + 128 := by
  simp [UInt8.toNat_ofNat']; omega
theorem pow_succ' (k : Nat) : 128 ^ (k + 1) = 128 * 128 ^ k := by rw [Nat.pow_succ, Nat.mul_comm]
theorem split_mul (n p : Nat) : n % 128 * p + n / 128 * (128 * p) = n * p := by
  have h := Nat.mod_add_div n 128
  calc n % 128 * p + n / 128 * (128 * p) = (n % 128 + 128 * (n / 128)) * p := by rw [Nat.add_mul, ← Nat.mul_assoc, Nat.mul_comm (n / 128) 128]
    _ = n * p := by rw [h]
theorem pow9 : 128 ^ 9 = 9223372036854775808 := by decide
theorem pow_pos (k : Nat) : 0 < 128 ^ k := Nat.pow_pos (by decide)
theorem nine_of {n k : Nat} (hk : k = 9) (hn : n * 128 ^ k < 18446744073709551616) : n < 2 := by
  subst hk; rw [pow9] at hn; omega
theorem get_put (f : Nat) : ∀ (n k acc : Nat) (beh : List UInt8), 0 < f → n < 128 ^ f → k ≤ 9 → n * 128 ^ k < 18446744073709551616 → (0 < k → 0 < n) →
    getF (putF f n ++ beh) k acc = (acc + n * 128 ^ k, k + (putF f n).length, 0) := by
  induction f with
  | zero => intro n k acc beh hf; omega
  | succ f ih =>
    intro n k acc beh hf0 hn hk hm h0
    by_cases h : n < 128
    · simp only [putF, if_pos h, List.cons_append, List.nil_append, getF, low_toNat n h, List.length_cons, List.length_nil]
      rw [if_neg (by rintro ⟨hk9, h1⟩; have := nine_of hk9 hm; omega), if_neg (by omega), if_neg (by rintro ⟨a, b⟩; have := h0 b; omega)]
    · have hk9 : k ≠ 9 := by intro e; have := nine_of e hm; omega
      simp only [putF, if_neg h, List.cons_append, getF, high_toNat n, List.length_cons]
      rw [if_neg (by omega), if_pos (by omega)]
      have hs := split_mul n (128 ^ k)
      rw [show n % 128 + 128 - 128 = n % 128 by omega]
      rw [ih (n / 128) (k + 1) _ beh (by rcases f with _ | g; (simp at hn; omega); omega) (by rw [pow_succ'] at hn; omega) (by omega) (by rw [pow_succ']; omega) (by intro _; omega)]
      rw [pow_succ']
      refine Prod.ext ?_ (Prod.ext ?_ rfl)
      · show acc + n % 128 * 128 ^ k + n / 128 * (128 * 128 ^ k) = acc + n * 128 ^ k
        omega
      · show k + 1 + (putF f (n / 128)).length = k + ((putF f (n / 128)).length + 1)
        omega
theorem putF_ne (f n : Nat) : putF (f + 1) n ≠ [] := by
  unfold putF; split <;> simp
theorem get_shape (l : List UInt8) : ∀ (k acc : Nat), k ≤ 9 → (getF l k acc = (0, 0, 8) ∨ getF l k acc = (0, 0, 20) ∨ getF l k acc = (0, 0, 11)) ∨
    ∃ n size, getF l k acc = (acc + n * 128 ^ k, k + size, 0) ∧ 1 ≤ size ∧ size ≤ l.length ∧ k + size ≤ 10 ∧ (0 < k → 0 < n) ∧ n * 128 ^ k < 18446744073709551616 ∧ ∀ f, 10 ≤ f + k → putF f n = l.take size := by
  induction l with
  | nil => intro k acc hk; simp [getF]
  | cons b r ih =>
    intro k acc hk
    have hb := b.toNat_lt
    unfold getF
    by_cases h1 : k = 9 ∧ 1 < b.toNat
    · rw [if_pos h1]; simp
    rw [if_neg h1]
    by_cases h2 : 128 ≤ b.toNat
    · rw [if_pos h2]
      have hk9 : k ≠ 9 := by intro e; exact h1 ⟨e, by omega⟩
      rcases ih (k + 1) (acc + (b.toNat - 128) * 128 ^ k) (by omega) with h | ⟨n, size, e, s1, s2, s3, hn, hm, hp⟩
      · exact Or.inl h
      · refine Or.inr ⟨b.toNat - 128 + 128 * n, size + 1, ?_, by omega, by simp; omega, by omega, fun _ => by have := hn (by omega); omega, ?_, ?_⟩
        · rw [e, pow_succ']
          refine Prod.ext ?_ (Prod.ext ?_ rfl)
          · show acc + (b.toNat - 128) * 128 ^ k + n * (128 * 128 ^ k) = acc + (b.toNat - 128 + 128 * n) * 128 ^ k
            rw [Nat.add_mul, ← Nat.mul_assoc, Nat.mul_comm n 128]; omega
          · show k + 1 + size = k + (size + 1)
            omega
        · -- below 2^64
          have hle : b.toNat - 128 + 128 * n < 128 * (n + 1) := by omega
          have h3 : (b.toNat - 128 + 128 * n) * 128 ^ k < (128 * (n + 1)) * 128 ^ k := Nat.mul_lt_mul_of_pos_right hle (pow_pos k)
          have h4 : (128 * (n + 1)) * 128 ^ k = (n + 1) * 128 ^ (k + 1) := by rw [pow_succ', ← Nat.mul_assoc, Nat.mul_comm 128 (n + 1)]
          have h5 : (n + 1) * 128 ^ (k + 1) ≤ 18446744073709551616 := by
            have hk8 : k ≤ 8 := by omega
            have : 18446744073709551616 = 2 * 128 ^ (8 - k) * 128 ^ (k + 1) := by
              rw [Nat.mul_assoc, ← Nat.pow_add, show 8 - k + (k + 1) = 9 by omega]
            rw [this] at hm ⊢
            exact Nat.mul_le_mul_right _ (Nat.lt_of_mul_lt_mul_right hm)
          omega
        · intro f hf
          obtain ⟨f, rfl⟩ : ∃ g, f = g + 1 := ⟨f - 1, by omega⟩
          have hn0 := hn (by omega)
          rw [putF, if_neg (by omega), show (b.toNat - 128 + 128 * n) / 128 = n by omega, show (b.toNat - 128 + 128 * n) % 128 + 128 = b.toNat by omega, hp f (by omega)]
          simp
    rw [if_neg h2]
    by_cases h3 : b.toNat = 0 ∧ 0 < k
    · rw [if_pos h3]; simp
    rw [if_neg h3]
    refine Or.inr ⟨b.toNat, 1, rfl, by omega, by simp, by omega, fun h => by omega, ?_, ?_⟩
    · by_cases hk9 : k = 9
      · subst hk9; rw [pow9]; omega
      · have : b.toNat * 128 ^ k < 128 * 128 ^ k := Nat.mul_lt_mul_of_pos_right (by omega) (pow_pos k)
        have h6 : 128 * 128 ^ k ≤ 128 ^ 9 := by rw [← pow_succ']; exact Nat.pow_le_pow_right (by decide) (by omega)
        rw [pow9] at h6; omega
    · intro f hf
      obtain ⟨f, rfl⟩ : ∃ g, f = g + 1 := ⟨f - 1, by omega⟩
      rw [putF, if_pos (by omega)]
      simp
theorem lt_pow10 {n : Nat} (h : n < 18446744073709551616) : n < 128 ^ 10 := by
  have : (128 : Nat) ^ 10 = 1180591620717411303424 := by decide
  omega
theorem put_mono (f : Nat) : ∀ (a b : Nat), a ≤ b → (putF f a).length ≤ (putF f b).length := by
  induction f with
  | zero => intro a b h; simp [putF]
  | succ f ih =>
    intro a b h
    unfold putF
    by_cases h1 : a < 128
    · rw [if_pos h1]; split <;> simp
    · rw [if_neg h1, if_neg (by omega)]
      simp only [List.length_cons]
      have := ih (a / 128) (b / 128) (by omega)
      omega
theorem put_len (n : Nat) : 1 ≤ (put n).length ∧ (put n).length ≤ 10 := by
  have h : ∀ f n, (putF f n).length ≤ f := by
    intro f
    induction f with
    | zero => intro n; simp [putF]
    | succ f ih => intro n; unfold putF; split
                   · simp
                   · have := ih (n / 128); simp; omega
  refine ⟨?_, h 10 n⟩
  have := putF_ne 9 n
  cases hp : put n with
  | nil => exact absurd hp this
  | cons _ _ => simp
theorem get_put' (n : Nat) (h : n < 18446744073709551616) (beh : List UInt8) : get (put n ++ beh) = (n, (put n).length, 0) := by
  have := get_put 10 n 0 0 beh (by omega) (lt_pow10 h) (by omega) (by simpa using h) (by omega)
  simpa [get, put] using this
theorem i64_not_any (x : Int) (h0 : -9223372036854775808 ≤ x) (h1 : x < 9223372036854775808) : bits .xor .i64 (-1) x = -1 - x := by
  show IntKind.i64.wrap ((BitVec.ofInt 64 (-1) ^^^ BitVec.ofInt 64 x).toNat : Int) = _
  have e : BitVec.ofInt 64 (-1) = BitVec.allOnes 64 := by decide
  rw [e, BitVec.allOnes_xor, BitVec.toNat_not, BitVec.toNat_ofInt]
  simp [IntKind.wrap, IntKind.bits, IntKind.signed]
  omega
theorem or_one (a : Int) (h0 : 0 ≤ a) (h1 : a < 9223372036854775808) : bits .or .u64 (a * 2) 1 = a * 2 + 1 := by
  obtain ⟨n, rfl⟩ := Int.eq_ofNat_of_zero_le h0
  rw [u64_or _ _ (by omega) (by omega) (by omega) (by omega), show ((n : Int) * 2).toNat = n * 2 by omega, show (1 : Int).toNat = 1 by decide, nat_join 1 _ _ (by omega) (by decide)]
  omega
theorem and_one (a : Int) (h0 : 0 ≤ a) (h1 : a < 18446744073709551616) : bits .and .u64 a 1 = a % 2 := by
  obtain ⟨n, rfl⟩ := Int.eq_ofNat_of_zero_le h0
  rw [u64_and _ _ (by omega) (by omega) (by omega) (by omega), show (1 : Int).toNat = 1 by decide, nat_mask1]
  omega
theorem and_127 (a : Int) (h0 : 0 ≤ a) (h1 : a < 18446744073709551616) : bits .and .u64 a 127 = a % 128 := by
  obtain ⟨n, rfl⟩ := Int.eq_ofNat_of_zero_le h0
  rw [u64_and _ _ (by omega) (by omega) (by omega) (by omega), show (127 : Int).toNat = 127 by decide, nat_mask7]
  omega
theorem and_127_u8 (a : Int) (h0 : 0 ≤ a) (h1 : a < 256) : bits .and .u8 a 127 = a % 128 := by
  obtain ⟨n, rfl⟩ := Int.eq_ofNat_of_zero_le h0
  rw [u8_and _ _ (by omega) (by omega) (by omega) (by omega), show (127 : Int).toNat = 127 by decide, nat_mask7]
  omega
theorem or_128_u8 (a : Int) (h0 : 0 ≤ a) (h1 : a < 128) : bits .or .u8 a 128 = a + 128 := by
  obtain ⟨n, rfl⟩ := Int.eq_ofNat_of_zero_le h0
  rw [u8_or _ _ (by omega) (by omega) (by omega) (by omega), show (128 : Int).toNat = 128 by decide, Nat.or_comm, nat_join 7 _ _ (by decide) (by omega)]
  omega
theorem or_join (k acc x : Nat) (ha : acc < 2 ^ k) (hs : acc + x * 2 ^ k < 18446744073709551616) : bits .or .u64 (acc : Int) ((x * 2 ^ k : Nat) : Int) = ((acc + x * 2 ^ k : Nat) : Int) := by
  rw [u64_or_nat _ _ (by omega) (by omega), Nat.or_comm, nat_join k _ _ (Nat.mul_mod_left _ _) ha, Nat.add_comm]
theorem pow_two (k : Nat) : 2 ^ (7 * k) = 128 ^ k := by rw [Nat.pow_mul]
theorem join_step (k acc : Nat) (b : Nat) (hb : b < 256) (hk : k ≤ 9) (hacc : acc < 128 ^ k) (h9 : k = 9 → b ≤ 1) (P : Int) (hP : P = 2 ^ (7 * k)) :
    bits .or .u64 (acc : Int) (IntKind.u64.wrap (IntKind.u64.wrap (bits .and .u8 (b : Int) 127) * P)) = ((acc + b % 128 * 128 ^ k : Nat) : Int) ∧ (k < 9 → acc + b % 128 * 128 ^ k < 128 ^ (k + 1)) := by
  have hP' : P = ((2 ^ (7 * k) : Nat) : Int) := by rw [hP]; simp
  have hlt : k < 9 → acc + b % 128 * 128 ^ k < 128 ^ (k + 1) := by
    intro _
    have h1 : b % 128 * 128 ^ k ≤ 127 * 128 ^ k := Nat.mul_le_mul_right _ (by omega)
    rw [pow_succ']; omega
  have hs : acc + b % 128 * 2 ^ (7 * k) < 18446744073709551616 := by
    rw [pow_two]
    by_cases hk9 : k = 9
    · have := h9 hk9
      subst hk9
      rw [pow9] at hacc ⊢
      have : b % 128 ≤ 1 := by omega
      omega
    · have h3 : 128 ^ (k + 1) ≤ 128 ^ 9 := Nat.pow_le_pow_right (by decide) (by omega)
      rw [pow9] at h3
      have := hlt (by omega)
      omega
  refine ⟨?_, hlt⟩
  rw [and_127_u8 _ (by omega) (by omega), IntWalk.u64_in ((b : Int) % 128) ⟨by omega, by omega⟩, hP', show ((b : Int) % 128) * ((2 ^ (7 * k) : Nat) : Int) = ((b % 128 * 2 ^ (7 * k) : Nat) : Int) by rw [Int.natCast_mul]; rfl]
  rw [IntWalk.u64_in _ ⟨by omega, by omega⟩, or_join _ _ _ (by rw [pow_two]; exact hacc) hs, pow_two]
theorem g_range {b : UInt8} {r : List UInt8} {k acc : Nat} (hk : k = 9) (hb : 1 < b.toNat) : getF (b :: r) k acc = (0, 0, 20) := by
  rw [getF, if_pos ⟨hk, hb⟩]
theorem g_more {b : UInt8} {r : List UInt8} {k acc : Nat} (hk : k ≠ 9) (hb : 128 ≤ b.toNat) : getF (b :: r) k acc = getF r (k + 1) (acc + b.toNat % 128 * 128 ^ k) := by
  have := b.toNat_lt
  rw [getF, if_neg (by omega), if_pos hb, show b.toNat % 128 = b.toNat - 128 by omega]
theorem g_wide {b : UInt8} {r : List UInt8} {k acc : Nat} (hk : 0 < k) (hb : b.toNat = 0) : getF (b :: r) k acc = (0, 0, 11) := by
  rw [getF, if_neg (by omega), if_neg (by omega), if_pos ⟨hb, hk⟩]
theorem g_end {b : UInt8} {r : List UInt8} {k acc : Nat} (hb : b.toNat < 128) (h9 : k = 9 → b.toNat ≤ 1) (h0 : b.toNat = 0 → k = 0) : getF (b :: r) k acc = (acc + b.toNat % 128 * 128 ^ k, k + 1, 0) := by
  rw [getF, if_neg (by omega), if_neg (by omega), if_neg (by omega), Nat.mod_eq_of_lt hb]
theorem drop_cons (s : ByteArray) (k : Nat) (h : k < s.size) : s.data.toList.drop k = s[k] :: s.data.toList.drop (k + 1) := by
  rw [List.drop_eq_getElem_cons (by simpa using h)]; rfl
theorem drop_end (s : ByteArray) (k : Nat) (h : s.size ≤ k) : s.data.toList.drop k = [] := List.drop_eq_nil_of_le (by simpa using h)
end Go.Proofs.YteigglhhnemngaaGreatDoor.Vm
namespace Go.Proofs.YteigglhhnemngaaGreatDoor
set_option maxRecDepth 100000
open Go.RowKit
set_option linter.unusedVariables false
theorem ret3 {a b c a' b' c' : Int} {k1 k2 k3 : IntKind} (h1 : a = a') (h2 : b = b') (h3 : c = c') : Ending.returned (.tuple #[.int k1 a, .int k2 b, .int k3 c]) = Ending.returned (.tuple #[.int k1 a', .int k2 b', .int k3 c']) := by rw [h1, h2, h3]
def bytes (s : ByteArray) : List UInt8 := s.data.toList
set_option maxRecDepth 100000 in
theorem get_any (s : ByteArray) (hs : s.size ≤ 9223372036854775807) (w : World) :
    Calls Tryz.prog 48 #[.string s] w fun e w' => e = .returned (.tuple #[.int .u64 (Vm.get (bytes s)).1, .int .i64 (Vm.get (bytes s)).2.1, .int .i64 (Vm.get (bytes s)).2.2]) ∧ w = w' := by
  go_enter Tryz.func48, Tryz.ntmps48
  go_wp2
  go_loop [2, 9] (fun n i => ∃ k acc : Nat, k ≤ s.size ∧ k ≤ 9 ∧ Hid (acc < 128 ^ k) ∧ i = .int .i64 k ∧ n = .int .u64 acc ∧ Hid (Vm.get (bytes s) = Vm.getF ((bytes s).drop k) k acc)) (fun _ i => s.size - (intOf i).toNat)
  case atStart => exact ⟨0, 0, by omega, by omega, by exact (by simp : 0 < 128 ^ 0), rfl, rfl, by exact (rfl : Vm.get (bytes s) = _)⟩
  case round =>
    obtain ⟨k, acc, hk, hk9, hacc, rfl, rfl, hd⟩ := hrel
    by_cases hlt : k < s.size
    · go_wp2
      · -- the tenth byte is above 1
        have h9 : (k : Int) = 9 := by assumption
        have hb : 1 < (s[k].toNat : Int) := by assumption
        have hv : Vm.get (bytes s) = (0, 0, 20) := by rw [hd.out, bytes, Vm.drop_cons s k hlt, Vm.g_range (by omega) (by omega)]
        go_ret3
        exact ⟨ret3 (by rw [hv]; rfl) (by rw [hv]; rfl) (by rw [hv]; rfl), rfl⟩
      · -- the last byte is 0, and the tenth
        have h9 : (k : Int) = 9 := by assumption
        have hb : s[k].toNat = 0 := by assumption
        have hv : Vm.get (bytes s) = (0, 0, 11) := by rw [hd.out, bytes, Vm.drop_cons s k hlt, Vm.g_wide (by omega) hb]
        go_ret3
        exact ⟨ret3 (by rw [hv]; rfl) (by rw [hv]; rfl) (by rw [hv]; rfl), rfl⟩
      · -- the tenth byte is 1
        have h9 : (k : Int) = 9 := by assumption
        have hb1 : (s[k].toNat : Int) ≤ 1 := by assumption
        have hb2 : (s[k].toNat : Int) < 128 := by assumption
        have hb0 : ¬ s[k].toNat = 0 := by assumption
        have hv : Vm.get (bytes s) = (acc + s[k].toNat % 128 * 128 ^ k, k + 1, 0) := by rw [hd.out, bytes, Vm.drop_cons s k hlt, Vm.g_end (by omega) (by omega) (by omega)]
        have hj := (Vm.join_step k acc s[k].toNat s[k].toNat_lt hk9 hacc.out (by omega) 9223372036854775808 (by rw [show k = 9 by omega]; rfl)).1
        go_ret3
        exact ⟨ret3 (by rw [hv]; exact hj) (by rw [hv]; show (10 : Int) = ((k + 1 : Nat) : Int); omega) (by rw [hv]; rfl), rfl⟩
      · -- a byte that goes on
        have h9 : ¬ (k : Int) = 9 := by assumption
        have hb : 128 ≤ (s[k].toNat : Int) := by assumption
        have hj := Vm.join_step k acc s[k].toNat s[k].toNat_lt hk9 hacc.out (by omega) (2 ^ (7 * k)) rfl
        have hv : Vm.get (bytes s) = Vm.getF ((bytes s).drop (k + 1)) (k + 1) (acc + s[k].toNat % 128 * 128 ^ k) := by rw [hd.out, bytes, Vm.drop_cons s k hlt, Vm.g_more (by omega) (by omega)]
        go_round
        case rel => exact ⟨k + 1, acc + s[k].toNat % 128 * 128 ^ k, by omega, by omega, hj.2 (by omega), by go_num, by rw [hj.1], hv⟩
        case measure => simp [intOf]; omega
      · -- the last byte is 0, and not the first
        have hb : s[k].toNat = 0 := by assumption
        have hk0 : 0 < k := by assumption
        have hv : Vm.get (bytes s) = (0, 0, 11) := by rw [hd.out, bytes, Vm.drop_cons s k hlt, Vm.g_wide (by omega) hb]
        go_ret3
        exact ⟨ret3 (by rw [hv]; rfl) (by rw [hv]; rfl) (by rw [hv]; rfl), rfl⟩
      · -- the first byte is 0
        have hb : s[k].toNat = 0 := by assumption
        have hk0 : ¬ 0 < k := by assumption
        have hv : Vm.get (bytes s) = (acc + s[k].toNat % 128 * 128 ^ k, k + 1, 0) := by rw [hd.out, bytes, Vm.drop_cons s k hlt, Vm.g_end (by omega) (by omega) (by omega)]
        have hj := (Vm.join_step k acc s[k].toNat s[k].toNat_lt hk9 hacc.out (by omega) (2 ^ (7 * k)) rfl).1
        rw [hb] at hj
        go_ret3
        exact ⟨ret3 (by rw [hv, hb]; exact hj) (by rw [hv]; rfl) (by rw [hv]; rfl), rfl⟩
      · -- the last byte
        have h9 : ¬ (k : Int) = 9 := by assumption
        have hb2 : (s[k].toNat : Int) < 128 := by assumption
        have hb0 : ¬ s[k].toNat = 0 := by assumption
        have hv : Vm.get (bytes s) = (acc + s[k].toNat % 128 * 128 ^ k, k + 1, 0) := by rw [hd.out, bytes, Vm.drop_cons s k hlt, Vm.g_end (by omega) (by omega) (by omega)]
        have hj := (Vm.join_step k acc s[k].toNat s[k].toNat_lt hk9 hacc.out (by omega) (2 ^ (7 * k)) rfl).1
        go_ret3
        exact ⟨ret3 (by rw [hv]; exact hj) (by rw [hv]; rfl) (by rw [hv]; rfl), rfl⟩
    · go_wp2
      have hv : Vm.get (bytes s) = (0, 0, 8) := by rw [hd.out, bytes, Vm.drop_end s k (by omega)]; rfl
      go_ret3
      exact ⟨ret3 (by rw [hv]; rfl) (by rw [hv]; rfl) (by rw [hv]; rfl), rfl⟩
def cellsOf (pre : List UInt8) : Array Value := (pre.map (fun b => Value.int .u8 b.toNat) ++ List.replicate (10 - pre.length) (Value.int .u8 0)).toArray
theorem cells_set (pre : List UInt8) (b : UInt8) (h : pre.length < 10) (x : Value) (hx : x = .int .u8 b.toNat) : (cellsOf pre).setIfInBounds pre.length x = cellsOf (pre ++ [b]) := by
  subst hx
  have e : 10 - pre.length = (10 - (pre.length + 1)) + 1 := by omega
  unfold cellsOf
  rw [List.setIfInBounds_toArray]
  congr 1
  rw [e, List.replicate_succ, List.set_append_right _ _ (by simp)]
  simp
theorem cells_size (pre : List UInt8) (h : pre.length ≤ 10) : (cellsOf pre).size = 10 := by
  simp [cellsOf]; omega
theorem cells_get (pre : List UInt8) (j : Nat) (hj : j < pre.length) : (cellsOf pre)[j]? = some (.int .u8 (pre[j].toNat : Int)) := by
  simp [cellsOf, List.getElem?_append, hj]
theorem set_get (C : Array Value) (k : Nat) (h : k < C.size) (x : Value) : (C.setIfInBounds k x)[k]? = some x := by
  simp [h]
theorem cell_new (w : World) (C : Array Value) (t : TypeId) (j : Nat) : (w.alloc (.cells C t)).cell? ⟨w.heap.size, j, none⟩ = C[j]? := World.cell?_alloc_mark w C t (0, 0) j
theorem arr_under : Tryz.prog.underlying 164 = some (.array (Tryz.prog.arrayLen 164) (Tryz.prog.elem 164)) := by kernel_rfl
theorem arr_len : Tryz.prog.arrayLen 164 = 10 := by kernel_rfl
theorem arr_elem (w : World) : (Go.sizeOf (Tryz.prog.elem 164)).run Tryz.prog w = .ok 1 w := by kernel_rfl
theorem u_bytes : Tryz.prog.underlying 43 = some (.slice 5) := by kernel_rfl
theorem u_byte : Tryz.prog.underlying 5 = some (.int .u8) := by kernel_rfl
theorem u_string : Tryz.prog.underlying 9 = some .string := by kernel_rfl
theorem sl_at (a : Addr) (k : Nat) (h : k + 1 ≤ 10) (wx : World) :
    (Instr.sliceAt 164 (.pointer (some a)) none (some (.int .i64 ((k : Int) + 1))) none).run Tryz.prog wx = .ok (.slice (some a) (k + 1) 10) wx := by
  rw [run_sliceAt_array_h wx _ a arr_under .i64 ((k : Int) + 1) (by omega) (by rw [arr_len]; omega), arr_elem, arr_len]
  simp [Result.andThen, slicedAt, Addr.add]
set_option maxRecDepth 100000 in
theorem put_any (n : Nat) (hn : n < 18446744073709551616) (w : World) :
    Calls Tryz.prog 52 #[.int .u64 n] w fun e w' => e = .returned (.string ⟨(Vm.put n).toArray⟩) ∧ Below w.heap.size w w' := by
  go_enter Tryz.func52, Tryz.ntmps52
  go_wp2
  go_step3
  go_wp2
  go_step3
  go_wp2
  go_loopw [0, 4, 6] (fun a s i wr => ∃ (k m : Nat) (pre : List UInt8), k ≤ 9 ∧ Hid (pre.length = k) ∧ m < 18446744073709551616 ∧ a = .int .u64 m ∧ s = .int .i64 k ∧ i = .int .i64 k ∧ Hid (m * 128 ^ k < 18446744073709551616) ∧ Hid (Vm.putF 10 n = pre ++ Vm.putF (10 - k) m) ∧ wr = w.alloc (.cells (cellsOf pre) 164)) (fun _ _ i _ => 10 - (intOf i).toNat)
  case atStart => exact ⟨0, n, [], by omega, rfl, hn, rfl, rfl, rfl, by exact (by simpa using hn : n * 128 ^ 0 < _), rfl, rfl⟩
  case round =>
    obtain ⟨k, m, pre, hk, hl, hm, rfl, rfl, rfl, hmk, hp, rfl⟩ := hrel
    have hC := cells_size pre (by have := hl.out; omega)
    have hand : bits .and .u64 (m : Int) 127 = (m : Int) % 128 := Vm.and_127 m (by omega) (by omega)
    have H1 : ∀ x : Int, x = (m : Int) % 128 → Hid ((cellsOf pre).setIfInBounds k (.int .u8 x) = cellsOf (pre ++ [UInt8.ofNat (m % 128)])) := fun x hx => by
      show _ = _
      obtain rfl := hl.out
      exact cells_set pre _ (by omega) _ (by rw [Vm.low_toNat _ (by omega), hx]; rfl)
    have H2 : ∀ x : Int, x = (m : Int) % 128 + 128 → Hid ((cellsOf pre).setIfInBounds k (.int .u8 x) = cellsOf (pre ++ [UInt8.ofNat (m % 128 + 128)])) := fun x hx => by
      show _ = _
      obtain rfl := hl.out
      exact cells_set pre _ (by omega) _ (by rw [Vm.high_toNat, hx]; rfl)
    have hg : ∀ x, ((cellsOf pre).setIfInBounds k x)[k]? = some x := fun x => set_get _ _ (by omega) x
    obtain ⟨v, hv⟩ : ∃ v, (w.alloc (.cells (cellsOf pre) 164)).cell? ⟨w.heap.size, k, none⟩ = some v := by
      rw [cell_new, Array.getElem?_eq_getElem (by omega)]
      exact ⟨_, rfl⟩
    have hf : (w.alloc (.cells (cellsOf pre) 164)).frozen? ⟨w.heap.size, k, none⟩ = false := by
      simp [go_sem]
    have HC : Hid ((cellsOf pre).size = 10) := hC
    clear hC
    by_cases hlt : m < 128
    · have ht : ((m : Int) / 128 == 0) = true := by simp; omega
      have E1 : Hid (bits .and .u64 (m : Int) 127 % 256 = (m : Int) % 128) := by show _ = _; rw [hand]; omega
      have HS := sl_at ⟨w.heap.size, 0, none⟩ k (by omega)
      have hput : Hid (Vm.put n = pre ++ [UInt8.ofNat (m % 128)]) := by
        show Vm.putF 10 n = _
        rw [hp.out, show 10 - k = (9 - k) + 1 by omega, Vm.putF, if_pos hlt, Nat.mod_eq_of_lt hlt]
      have hcv : (convert 43 9 (.slice (some ⟨w.heap.size, 0, none⟩) (k + 1) 10)).run Tryz.prog (w.alloc (.cells ((cellsOf pre).setIfInBounds k (.int .u8 (bits .and .u64 (m : Int) 127 % 256))) 164)) = .ok (.string ⟨(Vm.put n).toArray⟩) (w.alloc (.cells ((cellsOf pre).setIfInBounds k (.int .u8 (bits .and .u64 (m : Int) 127 % 256))) 164)) := by
        rw [hput.out, (H1 _ E1.out).out]
        have := run_convert_bytes_back (P := Tryz.prog) (w.alloc (.cells (cellsOf (pre ++ [UInt8.ofNat (m % 128)])) 164)) 43 9 5 ⟨w.heap.size, 0, none⟩ 10 (pre ++ [UInt8.ofNat (m % 128)]) u_bytes u_byte u_string (fun j hj => by
          have e : (⟨w.heap.size, 0, none⟩ : Addr).add j = ⟨w.heap.size, j, none⟩ := by unfold Addr.add; split <;> simp_all
          rw [e, cell_new, cells_get _ j hj])
        rw [List.length_append, hl.out] at this
        exact this
      clear hand H1 H2 hput
      go_wp2
      rw [Exit.noGoto_ret]
      go_ret
      exact ⟨rfl, by go_grown⟩
    · have ht : ((m : Int) / 128 == 0) = false := by simp; omega
      have E1 : Hid (bits .or .u8 (bits .and .u64 (m : Int) 127 % 256) 128 = (m : Int) % 128 + 128) := by
        show _ = _
        rw [hand, show (m : Int) % 128 % 256 = (m : Int) % 128 by omega]
        exact Vm.or_128_u8 _ (by omega) (by omega)
      have HH := (H2 _ E1.out)
      have hk9 : k ≠ 9 := by intro e; have := Vm.nine_of e hmk.out; omega
      clear hand H1 H2
      go_wp2
      go_roundw
      case rel =>
        refine ⟨k + 1, m / 128, pre ++ [UInt8.ofNat (m % 128 + 128)], by omega, ?_, by omega, by go_num, by go_num, by go_num, ?_, ?_, ?_⟩
        · show _ = _; rw [List.length_append, hl.out]; rfl
        · have h1 := hmk.out
          have h2 := Vm.split_mul m (128 ^ k)
          show _ < _
          rw [Vm.pow_succ']
          omega
        · show _ = _
          rw [hp.out, show 10 - k = (10 - (k + 1)) + 1 by omega, Vm.putF, if_neg hlt, List.append_assoc]
          rfl
        · rw [HH.out]
      case measure => simp [intOf]; omega
end Go.Proofs.YteigglhhnemngaaGreatDoor
namespace Go.Proofs.YteigglhhnemngaaGreatDoor
set_option maxRecDepth 100000
open Go.ChangeShapes Go.WideShapes Go.ChangeAt Go.RowKit Go.ChangeMaps
set_option linter.unusedVariables false
theorem below_first {w w3 : World} {o : Obj} (h : Below (w.alloc o).drew.heap.size (w.alloc o).drew w3) : Below w.heap.size w w3 :=
  (((Below.refl _ _).alloc (Nat.le_refl _) o).drew).trans (h.mono (by simp))
theorem add_step (k acc b U : Nat) (hb : b < 128) (hk : k ≤ 9) (hacc : acc < 128 ^ k) (hU : U = 128 ^ k) (h9 : k = 9 → b ≤ 1) :
    IntKind.u64.wrap ((acc : Int) + IntKind.u64.wrap ((b : Int) * (U : Int))) = ((acc + b * 128 ^ k : Nat) : Int) ∧ (k < 9 → acc + b * 128 ^ k < 128 ^ (k + 1)) := by
  subst hU
  have hlt : k < 9 → acc + b * 128 ^ k < 128 ^ (k + 1) := by
    intro _
    have h1 : b * 128 ^ k ≤ 127 * 128 ^ k := Nat.mul_le_mul_right _ (by omega)
    rw [Vm.pow_succ']; omega
  have hs : acc + b * 128 ^ k < 18446744073709551616 := by
    by_cases hk9 : k = 9
    · have := h9 hk9
      subst hk9
      rw [Vm.pow9] at hacc ⊢
      omega
    · have h3 : 128 ^ (k + 1) ≤ 128 ^ 9 := Nat.pow_le_pow_right (by decide) (by omega)
      rw [Vm.pow9] at h3
      have := hlt (by omega)
      omega
  refine ⟨?_, hlt⟩
  have ec : (b : Int) * ((128 ^ k : Nat) : Int) = ((b * 128 ^ k : Nat) : Int) := (Int.natCast_mul _ _).symm
  rw [ec, IntWalk.u64_in ((b * 128 ^ k : Nat) : Int) ⟨by omega, by omega⟩, IntWalk.u64_in _ ⟨by omega, by omega⟩]
  omega
theorem unit_step (k U : Nat) (hk : k < 9) (hU : U = 128 ^ k) : IntKind.u64.wrap ((U : Int) * 128) = ((128 ^ (k + 1) : Nat) : Int) := by
  subst hU
  have h3 : 128 ^ (k + 1) ≤ 128 ^ 9 := Nat.pow_le_pow_right (by decide) (by omega)
  rw [Vm.pow9] at h3
  have e := Vm.pow_succ' k
  rw [IntWalk.u64_in _ ⟨by omega, by omega⟩]
  omega
set_option maxRecDepth 100000 in
theorem rget_any (s : ByteArray) (hs : s.size ≤ 9223372036854775807) (w : World) :
    Calls Tryz.prog 69 #[.string s] w fun e w' => e = .returned (.tuple #[.int .u64 (Vm.get (bytes s)).1, .int .i64 (Vm.get (bytes s)).2.1, .int .i64 (Vm.get (bytes s)).2.2]) ∧ w = w' := by
  go_enter Tryz.func69, Tryz.ntmps69
  go_wp2
  go_loop [5, 6, 7] (fun n u i => ∃ k acc U : Nat, k ≤ s.size ∧ k ≤ 9 ∧ Hid (acc < 128 ^ k) ∧ i = .int .i64 k ∧ n = .int .u64 acc ∧ u = .int .u64 (U : Nat) ∧ Hid (U = 128 ^ k) ∧ Hid (Vm.get (bytes s) = Vm.getF ((bytes s).drop k) k acc)) (fun _ _ i => s.size - (intOf i).toNat)
  case atStart => exact ⟨0, 0, 1, by omega, by omega, by exact (by simp : 0 < 128 ^ 0), rfl, rfl, rfl, by exact (rfl : 1 = 128 ^ 0), by exact (rfl : Vm.get (bytes s) = _)⟩
  case round =>
    obtain ⟨k, acc, U, hk, hk9, hacc, rfl, rfl, rfl, hU, hd⟩ := hrel
    by_cases hlt : k < s.size
    · go_wp2
      · -- the tenth byte is above 1
        have h9 : (k : Int) = 9 := by assumption
        have hb : 1 < (s[k].toNat : Int) := by assumption
        have hv : Vm.get (bytes s) = (0, 0, 20) := by rw [hd.out, bytes, Vm.drop_cons s k hlt, Vm.g_range (by omega) (by omega)]
        go_ret3
        exact ⟨ret3 (by rw [hv]; rfl) (by rw [hv]; rfl) (by rw [hv]; rfl), rfl⟩
      · -- the last byte is 0, and the tenth
        have h9 : (k : Int) = 9 := by assumption
        have hb : s[k].toNat = 0 := by assumption
        have hv : Vm.get (bytes s) = (0, 0, 11) := by rw [hd.out, bytes, Vm.drop_cons s k hlt, Vm.g_wide (by omega) hb]
        go_ret3
        exact ⟨ret3 (by rw [hv]; rfl) (by rw [hv]; rfl) (by rw [hv]; rfl), rfl⟩
      · -- the tenth byte is 1
        have h9 : (k : Int) = 9 := by assumption
        have hb1 : (s[k].toNat : Int) ≤ 1 := by assumption
        have hb0 : ¬ s[k].toNat = 0 := by assumption
        have hv : Vm.get (bytes s) = (acc + s[k].toNat % 128 * 128 ^ k, k + 1, 0) := by rw [hd.out, bytes, Vm.drop_cons s k hlt, Vm.g_end (by omega) (by omega) (by omega)]
        go_ret3
        have hj := (add_step k acc (s[k].toNat % 128) U (by omega) hk9 hacc.out hU.out (by omega)).1
        rw [show s[k].toNat % 128 = s[k].toNat by omega] at hj hv
        exact ⟨ret3 (by rw [hv]; exact hj) (by rw [hv]; show (10 : Int) = ((k + 1 : Nat) : Int); omega) (by rw [hv]; rfl), rfl⟩
      · -- the last byte is 0, and not the first
        have hb : s[k].toNat = 0 := by assumption
        have hk0 : 0 < k := by assumption
        have hv : Vm.get (bytes s) = (0, 0, 11) := by rw [hd.out, bytes, Vm.drop_cons s k hlt, Vm.g_wide (by omega) hb]
        go_ret3
        exact ⟨ret3 (by rw [hv]; rfl) (by rw [hv]; rfl) (by rw [hv]; rfl), rfl⟩
      · -- the first byte is 0
        have hb : s[k].toNat = 0 := by assumption
        have hk0 : ¬ 0 < k := by assumption
        have hv : Vm.get (bytes s) = (acc + s[k].toNat % 128 * 128 ^ k, k + 1, 0) := by rw [hd.out, bytes, Vm.drop_cons s k hlt, Vm.g_end (by omega) (by omega) (by omega)]
        go_ret3
        have hj := (add_step k acc (s[k].toNat % 128) U (by omega) hk9 hacc.out hU.out (by omega)).1
        rw [hb] at hj hv
        simp at hj
        exact ⟨ret3 (by rw [hv]; simp; exact hj) (by rw [hv]; rfl) (by rw [hv]; rfl), rfl⟩
      · -- the last byte
        have h9 : ¬ (k : Int) = 9 := by assumption
        have hb2 : (s[k].toNat : Int) < 128 := by assumption
        have hb0 : ¬ s[k].toNat = 0 := by assumption
        have hv : Vm.get (bytes s) = (acc + s[k].toNat % 128 * 128 ^ k, k + 1, 0) := by rw [hd.out, bytes, Vm.drop_cons s k hlt, Vm.g_end (by omega) (by omega) (by omega)]
        go_ret3
        have hj := (add_step k acc (s[k].toNat % 128) U (by omega) hk9 hacc.out hU.out (by omega)).1
        rw [show s[k].toNat % 128 = s[k].toNat by omega] at hj hv
        exact ⟨ret3 (by rw [hv]; exact hj) (by rw [hv]; rfl) (by rw [hv]; rfl), rfl⟩
      · -- a byte that goes on
        have h9 : ¬ (k : Int) = 9 := by assumption
        have hb : 128 ≤ (s[k].toNat : Int) := by assumption
        have hv : Vm.get (bytes s) = Vm.getF ((bytes s).drop (k + 1)) (k + 1) (acc + s[k].toNat % 128 * 128 ^ k) := by rw [hd.out, bytes, Vm.drop_cons s k hlt, Vm.g_more (by omega) (by omega)]
        go_round
        case rel =>
          have hj := add_step k acc (s[k].toNat % 128) U (by omega) hk9 hacc.out hU.out (by omega)
          have hm : ((s[k].toNat : Int) - 128) % 256 = ((s[k].toNat % 128 : Nat) : Int) := by have := s[k].toNat_lt; omega
          exact ⟨k + 1, acc + s[k].toNat % 128 * 128 ^ k, 128 ^ (k + 1), by omega, by omega, hj.2 (by omega), by go_num, by rw [hm, hj.1], by rw [unit_step k U (by omega) hU.out], rfl, hv⟩
        case measure => simp [intOf]; omega
    · go_wp2
      have hv : Vm.get (bytes s) = (0, 0, 8) := by rw [hd.out, bytes, Vm.drop_end s k (by omega)]; rfl
      go_ret3
      exact ⟨ret3 (by rw [hv]; rfl) (by rw [hv]; rfl) (by rw [hv]; rfl), rfl⟩
end Go.Proofs.YteigglhhnemngaaGreatDoor
namespace Go.Proofs.YteigglhhnemngaaGreatDoor
set_option maxRecDepth 100000
open Go.RowKit Go.Shelf
def cloneRen : Ren := ⟨fun | 316 => 89 | n => n, fun | 0 => 0 | 3 => 3 | 4 => 4 | 5 => 5 | 9 => 9 | 37 => 43 | 127 => 197 | n => n, fun n => n⟩
theorem cloneLays : LaysM.n316 Tryz.prog cloneRen := by
  constructor
  · constructor
    all_goals first | kernel_rfl | exact fun _ => by kernel_rfl
  all_goals first | kernel_rfl | exact fun _ => by kernel_rfl
theorem lite_clone (s : ByteArray) (w : World) (hs : s.size ≤ 281474976710656) :
    Calls Tryz.prog 89 #[.string s] w fun e w' => e = .returned (.string s) ∧ Below w.heap.size w w' := Any.stringslite_Clone cloneLays s w hs
theorem clone_any (s : ByteArray) (w : World) (hs : s.size ≤ 281474976710656) :
    Calls Tryz.prog 50 #[.string s] w fun e w' => e = .returned (.string s) ∧ Below w.heap.size w w' := by
  go_enter Tryz.func50, Tryz.ntmps50
  go_wp2_with fail
  refine (lite_clone s _ hs).mono ?_
  rintro e w' ⟨rfl, hb⟩
  go_wp2_with fail
  go_ret
  exact ⟨rfl, hb⟩
end Go.Proofs.YteigglhhnemngaaGreatDoor
namespace Go.Proofs.YteigglhhnemngaaGreatDoor
set_option maxRecDepth 100000
open Go.RowKit
set_option linter.unusedVariables false
theorem zig_any (x : Int) (h0 : -9223372036854775808 ≤ x) (h1 : x < 9223372036854775808) (w : World) :
    Calls Tryz.prog 124 #[.int .i64 x] w fun e w' => e = .returned (.int .u64 (if x < 0 then -2 * x - 1 else 2 * x)) ∧ w = w' := by
  have e1 := Vm.i64_not_any x h0 h1
  by_cases hx : x < 0
  · rw [if_pos hx]
    have e2 := Vm.or_one (-1 - x) (by omega) (by omega)
    have e3 : IntKind.u64.wrap (-1 - x) = -1 - x := IntWalk.u64_in _ ⟨by omega, by omega⟩
    have e4 : IntKind.u64.wrap ((-1 - x) * 2) = (-1 - x) * 2 := IntWalk.u64_in _ ⟨by omega, by omega⟩
    go_enter Tryz.func124, Tryz.ntmps124
    go_wp2
    go_ret
    exact ⟨by simp; omega, rfl⟩
  · rw [if_neg hx]
    have e3 : IntKind.u64.wrap x = x := IntWalk.u64_in _ ⟨by omega, by omega⟩
    have e4 : IntKind.u64.wrap (x * 2) = x * 2 := IntWalk.u64_in _ ⟨by omega, by omega⟩
    go_enter Tryz.func124, Tryz.ntmps124
    go_wp2
    go_ret
    exact ⟨by simp; omega, rfl⟩
theorem zag_any (n : Int) (h0 : 0 ≤ n) (h1 : n ≤ 18446744073709551615) (w : World) :
    Calls Tryz.prog 123 #[.int .u64 n] w fun e w' => e = .returned (.int .i64 (if n % 2 = 0 then n / 2 else - (n / 2) - 1)) ∧ w = w' := by
  have e1 := Vm.and_one n h0 (by omega)
  have e2 := Vm.i64_not_any (n / 2) (by omega) (by omega)
  by_cases hn : n % 2 = 0
  · rw [if_pos hn]
    have e3 : (bits BinOp.and IntKind.u64 n 1 == 1) = false := by rw [e1, hn]; rfl
    clear e1 hn e2
    go_enter Tryz.func123, Tryz.ntmps123
    go_wp2
    go_ret
    exact ⟨rfl, rfl⟩
  · rw [if_neg hn]
    have e3 : (bits BinOp.and IntKind.u64 n 1 == 1) = true := by rw [e1, show n % 2 = 1 by omega]; rfl
    have E2 := e2
    clear e1 hn e2
    go_enter Tryz.func123, Tryz.ntmps123
    go_wp2
    go_ret
    exact ⟨by simp; omega, rfl⟩
end Go.Proofs.YteigglhhnemngaaGreatDoor
namespace Go.Proofs.YteigglhhnemngaaGreatDoor
set_option maxRecDepth 100000
open Go.ChangeShapes Go.WideShapes Go.ChangeAt Go.RowKit Go.ChangeMaps
set_option linter.unusedVariables false
def zigV (x : Int) : Int := if x < 0 then -2 * x - 1 else 2 * x
def zagV (n : Int) : Int := if n % 2 = 0 then n / 2 else - (n / 2) - 1
theorem zig_v (x : Int) (h0 : -9223372036854775808 ≤ x) (h1 : x < 9223372036854775808) (w : World) :
    Calls Tryz.prog 124 #[.int .i64 x] w fun e w' => e = .returned (.int .u64 (zigV x)) ∧ w = w' := zig_any x h0 h1 w
theorem zag_v (n : Int) (h0 : 0 ≤ n) (h1 : n ≤ 18446744073709551615) (w : World) :
    Calls Tryz.prog 123 #[.int .u64 n] w fun e w' => e = .returned (.int .i64 (zagV n)) ∧ w = w' := zag_any n h0 h1 w
end Go.Proofs.YteigglhhnemngaaGreatDoor
namespace Go.Proofs.YteigglhhnemngaaGreatDoor
set_option maxRecDepth 100000
open Go.RowKit
set_option linter.unusedVariables false
def Obj (w : World) (g : Nat) (t : TypeId) (cs : Array Value) : Prop := w.heap[g]? = some (.cells cs t (0, 0))
theorem Obj.lt {w : World} {g : Nat} {t : TypeId} {cs : Array Value} (h : Obj w g t cs) : g < w.heap.size := lt_of_block h
theorem Obj.cell {w : World} {g : Nat} {t : TypeId} {cs : Array Value} (h : Obj w g t cs) (i : Nat) : w.cell? ⟨g, i, none⟩ = cs[i]? := by
  unfold Obj at h
  simp [World.cell?, h]
theorem Obj.free {w : World} {g : Nat} {t : TypeId} {cs : Array Value} (h : Obj w g t cs) (i : Nat) : w.frozen? ⟨g, i, none⟩ = false := by
  unfold Obj at h
  simp [World.frozen?, h]
theorem Obj.made (w : World) (t : TypeId) (cs : Array Value) : Obj (w.alloc (.cells cs t)) w.heap.size t cs := by
  show (w.heap.push _)[_]? = _
  simp
theorem Obj.same {w w' : World} {g : Nat} {t : TypeId} {cs : Array Value} (h : Obj w g t cs) (e : w'.heap[g]? = w.heap[g]?) : Obj w' g t cs := e.trans h
theorem Obj.store {w : World} {g : Nat} {t : TypeId} {cs : Array Value} (h : Obj w g t cs) (i : Nat) (u : Value) : Obj (w.setCell ⟨g, i, none⟩ u) g t (cs.setIfInBounds i u) := by
  have hl := h.lt
  unfold Obj at h
  have h' : w.heap[g] = .cells cs t (0, 0) := by simpa [Array.getElem?_eq_getElem hl] using h
  show (w.heap.modify g _)[g]? = _
  rw [Array.getElem?_eq_getElem (by simpa using hl), Array.getElem_modify_self, h']
  rfl
theorem Obj.unlike {w : World} {g g' : Nat} {t t' : TypeId} {cs cs' : Array Value} (h : Obj w g t cs) (h' : Obj w g' t' cs') (hn : t ≠ t') : g ≠ g' := by
  rintro rfl
  unfold Obj at h h'
  rw [h] at h'
  injection h' with h'
  injection h' with _ e
  exact hn e
theorem Obj.unlike_row {w : World} {g base size n : Nat} {t e : TypeId} {cs : Array Value} {v : Value} {xs : List Value} (h : Obj w g t cs) (hr : w.ownsRow base e size v n xs) (hn : t ≠ e) : v.ownBlock ≠ some g := by
  rcases hr.2 with ⟨rfl, _⟩ | ⟨r, cap, cur, rfl, _, hh, _⟩
  · intro h; cases h
  · intro he
    have : r = g := by simpa [Value.ownBlock] using he
    subst this
    exact Obj.unlike (w := w) h hh hn rfl
structure Kp (g : Nat) (o : Option Nat) (w w' : World) : Prop where
  os : w'.os = w.os
  tape : w'.tape = w.tape
  output : w'.output = w.output
  size : w.heap.size ≤ w'.heap.size
  block : ∀ i, i < w.heap.size → i ≠ g → some i ≠ o → w'.heap[i]? = w.heap[i]?
structure Fr (B g : Nat) (w w' : World) : Prop where
  os : w'.os = w.os
  tape : w'.tape = w.tape
  output : w'.output = w.output
  size : w.heap.size ≤ w'.heap.size
  block : ∀ i, i < w.heap.size → i ≠ g → i < B → w'.heap[i]? = w.heap[i]?
theorem Fr.refl (B g : Nat) (w : World) : Fr B g w w := ⟨rfl, rfl, rfl, Nat.le_refl _, fun _ _ _ _ => rfl⟩
theorem Fr.trans {B g : Nat} {a b c : World} (h : Fr B g a b) (k : Fr B g b c) : Fr B g a c :=
  ⟨k.os.trans h.os, k.tape.trans h.tape, k.output.trans h.output, Nat.le_trans h.size k.size, fun i hi hg hb => (k.block i (Nat.lt_of_lt_of_le hi h.size) hg hb).trans (h.block i hi hg hb)⟩
theorem Kp.fr {B g : Nat} {o : Option Nat} {w w' : World} (h : Kp g o w w') (ho : ∀ r, o = some r → B ≤ r) : Fr B g w w' :=
  ⟨h.os, h.tape, h.output, h.size, fun i hi hg hb => h.block i hi hg (fun e => by have := ho i e.symm; omega)⟩
theorem Kp.of_below {g : Nat} {o : Option Nat} {w w1 w' : World} (hb : Below w.heap.size w w1) (h : Kp g o w1 w') : Kp g o w w' :=
  ⟨h.os.trans hb.os, h.tape.trans hb.tape, h.output.trans hb.output, Nat.le_trans hb.size h.size, fun i hi hg ho => (h.block i (Nat.lt_of_lt_of_le hi hb.size) hg ho).trans (hb.block i hi)⟩
theorem Kp.then_below {g : Nat} {o : Option Nat} {w w1 w' : World} (h : Kp g o w w1) (hb : Below w1.heap.size w1 w') : Kp g o w w' :=
  ⟨hb.os.trans h.os, hb.tape.trans h.tape, hb.output.trans h.output, Nat.le_trans h.size hb.size, fun i hi hg ho => (hb.block i (Nat.lt_of_lt_of_le hi h.size)).trans (h.block i hi hg ho)⟩
theorem kp_below {g : Nat} {o : Option Nat} {w w' : World} (hb : Below w.heap.size w w') : Kp g o w w' :=
  ⟨hb.os, hb.tape, hb.output, hb.size, fun i hi _ _ => hb.block i hi⟩
theorem Kp.trans {g : Nat} {a b c : World} (h : Kp g none a b) (k : Kp g none b c) : Kp g none a c :=
  ⟨k.os.trans h.os, k.tape.trans h.tape, k.output.trans h.output, Nat.le_trans h.size k.size, fun i hi hg ho => (k.block i (Nat.lt_of_lt_of_le hi h.size) hg ho).trans (h.block i hi hg ho)⟩
theorem Fr.below {B0 B g : Nat} {w w' : World} (h : Fr B g w w') (h0 : B0 ≤ B) (hg : B0 ≤ g) (hw : B0 ≤ w.heap.size) : Below B0 w w' :=
  ⟨h.os, h.tape, h.output, h.size, fun i hi => h.block i (by omega) (by omega) (by omega)⟩
theorem Fr.mono {B B' g : Nat} {w w' : World} (h : Fr B g w w') (hb : B' ≤ B) : Fr B' g w w' :=
  ⟨h.os, h.tape, h.output, h.size, fun i hi hg hi' => h.block i hi hg (by omega)⟩
theorem Fr.of_below {B g : Nat} {w w' : World} (hb : Below w.heap.size w w') : Fr B g w w' :=
  ⟨hb.os, hb.tape, hb.output, hb.size, fun i hi _ _ => hb.block i hi⟩
theorem Obj.fr {B g i : Nat} {w w' : World} {t : TypeId} {cs : Array Value} (h : Obj w i t cs) (f : Fr B g w w') (hg : i ≠ g) (hi : i < B) : Obj w' i t cs := h.same (f.block i h.lt hg hi)
theorem Obj.kp {g i : Nat} {o : Option Nat} {w w' : World} {t : TypeId} {cs : Array Value} (h : Obj w i t cs) (f : Kp g o w w') (hg : i ≠ g) (ho : o ≠ some i) : Obj w' i t cs := h.same (f.block i h.lt hg (fun e => ho e.symm))
theorem Obj.below {B i : Nat} {w w' : World} {t : TypeId} {cs : Array Value} (h : Obj w i t cs) (f : Below B w w') (hi : i < B) : Obj w' i t cs := h.same (f.block i hi)
def bcells (l : List UInt8) : List Value := l.map fun b => Value.int .u8 b.toNat
theorem bcells_append (l : List UInt8) (s : ByteArray) : bcells l ++ Lib.strCells s = bcells (l ++ s.data.toList) := by simp [bcells, Lib.strCells]
def WrV (w : World) (B g : Nat) (most : Int) (l : List UInt8) (v : Value) : Prop :=
  Obj w g 92 #[.int .i64 most, v] ∧ w.ownsRow B 5 1 v l.length (bcells l) ∧ 0 ≤ most ∧ most ≤ 16777216 ∧ (l.length : Int) ≤ most
def Wr (w : World) (B g : Nat) (most : Int) (l : List UInt8) : Prop := ∃ v, WrV w B g most l v
theorem own_below {w w' : World} {base : Nat} {e : TypeId} {size n : Nat} {v : Value} {xs : List Value} (h : w.ownsRow base e size v n xs) (hs : ∀ r, v.ownBlock = some r → w'.heap[r]? = w.heap[r]?) : w'.ownsRow base e size v n xs := by
  obtain ⟨h1, h2⟩ := h
  refine ⟨h1, ?_⟩
  rcases h2 with h2 | ⟨g, cap, cur, hv, hg, hh, r⟩
  · exact Or.inl h2
  · subst hv
    exact Or.inr ⟨g, cap, cur, rfl, hg, (hs g rfl).trans hh, r⟩
theorem WrV.same {w w' : World} {B g : Nat} {most : Int} {l : List UInt8} {v : Value} (h : WrV w B g most l v) (hg : w'.heap[g]? = w.heap[g]?) (hs : ∀ r, v.ownBlock = some r → w'.heap[r]? = w.heap[r]?) : WrV w' B g most l v :=
  ⟨h.1.same hg, own_below h.2.1 hs, h.2.2⟩
theorem WrV.row_lt {w : World} {B g : Nat} {most : Int} {l : List UInt8} {v : Value} (h : WrV w B g most l v) : ∀ r, v.ownBlock = some r → B ≤ r ∧ r < w.heap.size := h.2.1.lt
theorem WrV.below {w w' : World} {B B' g : Nat} {most : Int} {l : List UInt8} {v : Value} (h : WrV w B g most l v) (hb : Below B' w w') (hw : w.heap.size ≤ B') : WrV w' B g most l v :=
  h.same (hb.block g (Nat.lt_of_lt_of_le h.1.lt hw)) (fun r hr => hb.block r (Nat.lt_of_lt_of_le (h.row_lt r hr).2 hw))
theorem Wr.below {w w' : World} {B B' g : Nat} {most : Int} {l : List UInt8} (h : Wr w B g most l) (hb : Below B' w w') (hw : w.heap.size ≤ B') : Wr w' B g most l := by
  obtain ⟨v, h⟩ := h
  exact ⟨v, h.below hb hw⟩
theorem WrV.form {w : World} {B g : Nat} {most : Int} {l : List UInt8} {v : Value} (h : WrV w B g most l v) : ∃ A c, v = .slice A l.length c := by
  rcases h.2.1.2 with ⟨rfl, h0⟩ | ⟨r, cap, cur, rfl, _⟩
  · exact ⟨none, 0, by rw [h0]⟩
  · exact ⟨_, _, rfl⟩
def rawE (most : Int) (l s : List UInt8) : Int := if (l.length : Int) + s.length ≤ most then 0 else 40
def rawL (most : Int) (l s : List UInt8) : List UInt8 := if (l.length : Int) + s.length ≤ most then l ++ s else l
def RawPost (B g : Nat) (most : Int) (l : List UInt8) (v : Value) (s : List UInt8) (w : World) (e : Ending) (w' : World) : Prop :=
  e = .returned (.int .i64 (rawE most l s)) ∧ Wr w' B g most (rawL most l s) ∧ Kp g v.ownBlock w w'
theorem RawPost.of_below {B g : Nat} {most : Int} {l s : List UInt8} {v : Value} {w w1 w' : World} {e : Ending} (hb : Below w.heap.size w w1) (h : RawPost B g most l v s w1 e w') : RawPost B g most l v s w e w' :=
  ⟨h.1, h.2.1, Kp.of_below hb h.2.2⟩
end Go.Proofs.YteigglhhnemngaaGreatDoor
