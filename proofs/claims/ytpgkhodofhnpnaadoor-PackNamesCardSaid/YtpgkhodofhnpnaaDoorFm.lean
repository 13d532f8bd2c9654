/-
  PLAIN MATHEMATICS OF LAYER 3 (sums): the register of 32 bits, bit by bit; it is linear over exclusive or, no two registers come to one; so texts that are unlike within four bytes have unlike sums, and a text with its sum behind comes to one register alone. Condition: registers below 2^32.
-/
import Derived.Test.YtpgkhodofhnpnaaDoorRows
namespace Go.Proofs.YtpgkhodofhnpnaaDoor.Fm

/-- One bit. -/
def st (r : Nat) : Nat := if r % 2 = 1 then r / 2 ^^^ 3988292384 else r / 2
def stN : Nat → Nat → Nat
  | 0, r => r
  | k + 1, r => stN k (st r)
/-- One byte. -/
def upd (r b : Nat) : Nat := stN 8 (r ^^^ b)
def reg (r : Nat) (l : List Nat) : Nat := l.foldl upd r
def sum (l : List Nat) : Nat := 4294967295 ^^^ reg 4294967295 l

theorem st_lt {r : Nat} (h : r < 4294967296) : st r < 4294967296 := by
  unfold st
  split
  · exact Nat.xor_lt_two_pow (n := 32) (by omega) (by omega)
  · omega
theorem stN_lt {k : Nat} : ∀ {r : Nat}, r < 4294967296 → stN k r < 4294967296 := by
  induction k with
  | zero => intro r h; exact h
  | succ k ih => intro r h; exact ih (st_lt h)
theorem half_xor (a b : Nat) : (a ^^^ b) / 2 = a / 2 ^^^ b / 2 := Nat.xor_div_two
theorem low_xor (a b : Nat) : (a ^^^ b) % 2 = (a % 2 + b % 2) % 2 := by
  have h := Nat.xor_mod_two_eq_one (a := a) (b := b)
  by_cases ha : a % 2 = 1 <;> by_cases hb : b % 2 = 1 <;> by_cases hc : (a ^^^ b) % 2 = 1 <;> simp [ha, hb, hc] at h <;> omega
theorem xor4 (a b c d : Nat) : a ^^^ b ^^^ (c ^^^ d) = a ^^^ c ^^^ (b ^^^ d) := by
  rw [Nat.xor_assoc, Nat.xor_assoc, ← Nat.xor_assoc b c d, Nat.xor_comm b c, Nat.xor_assoc c b d]
theorem st_xor (a b : Nat) : st (a ^^^ b) = st a ^^^ st b := by
  unfold st
  rw [half_xor, low_xor]
  by_cases ha : a % 2 = 1 <;> by_cases hb : b % 2 = 1
  · rw [if_neg (by omega), if_pos ha, if_pos hb, xor4, Nat.xor_self, Nat.xor_zero]
  · rw [if_pos (by omega), if_pos ha, if_neg hb, Nat.xor_assoc, Nat.xor_comm (b / 2), ← Nat.xor_assoc]
  · rw [if_pos (by omega), if_neg ha, if_pos hb, Nat.xor_assoc]
  · rw [if_neg (by omega), if_neg ha, if_neg hb]
theorem stN_xor (k : Nat) : ∀ a b, stN k (a ^^^ b) = stN k a ^^^ stN k b := by
  induction k with
  | zero => intro a b; rfl
  | succ k ih => intro a b; rw [stN, st_xor, ih]; rfl
theorem xor_eq {a b : Nat} (h : a ^^^ b = 0) : a = b := by
  have h2 : a ^^^ b ^^^ b = 0 ^^^ b := by rw [h]
  rwa [Nat.xor_assoc, Nat.xor_self, Nat.xor_zero, Nat.zero_xor] at h2
theorem st_zero {r : Nat} (h : r < 4294967296) (h0 : st r = 0) : r = 0 := by
  unfold st at h0
  split at h0
  · have : r / 2 = 3988292384 := xor_eq h0
    omega
  · omega
theorem stN_zero {k : Nat} : ∀ {r : Nat}, r < 4294967296 → stN k r = 0 → r = 0 := by
  induction k with
  | zero => intro r _ h; exact h
  | succ k ih => intro r h h0; exact st_zero h (ih (st_lt h) h0)
theorem stN_of_zero (k : Nat) : stN k 0 = 0 := by
  induction k with
  | zero => rfl
  | succ k ih => exact ih
theorem stN_add (j k r : Nat) : stN (j + k) r = stN k (stN j r) := by
  induction j generalizing r with
  | zero => rw [Nat.zero_add]; rfl
  | succ j ih => rw [Nat.succ_add, stN, ih]; rfl
theorem stN_up (k : Nat) : ∀ x, stN k (x * 2 ^ k) = x := by
  induction k with
  | zero => intro x; simp [stN]
  | succ k ih =>
    intro x
    have e : st (x * 2 ^ (k + 1)) = x * 2 ^ k := by
      unfold st
      have : x * 2 ^ (k + 1) = 2 * (x * 2 ^ k) := by rw [Nat.pow_succ, ← Nat.mul_assoc, Nat.mul_comm]
      rw [this, if_neg (by omega)]
      omega
    rw [stN, e, ih]

/-- Bytes as one number, the lowest first. -/
def word : List Nat → Nat
  | [] => 0
  | b :: l => b ^^^ (word l * 256)
theorem word_lt : ∀ (l : List Nat), (∀ b ∈ l, b < 256) → word l < 256 ^ l.length := by
  intro l
  induction l with
  | nil => intro _; simp [word]
  | cons b l ih =>
    intro h
    have h1 := ih fun x hx => h x (List.mem_cons_of_mem _ hx)
    have hb := h b (List.mem_cons_self ..)
    have e : (256 : Nat) ^ (l.length + 1) = 2 ^ (8 * (l.length + 1)) := by rw [show (256 : Nat) = 2 ^ 8 from rfl, ← Nat.pow_mul]
    rw [word, List.length_cons, e]
    refine Nat.xor_lt_two_pow ?_ ?_
    · rw [← e, Nat.pow_succ]
      have : 0 < 256 ^ l.length := Nat.pow_pos (by decide)
      omega
    · rw [← e, Nat.pow_succ]
      exact Nat.mul_lt_mul_of_pos_right h1 (by decide)
theorem reg_append (r : Nat) (a b : List Nat) : reg r (a ++ b) = reg (reg r a) b := by simp [reg]
theorem reg_cons (r b : Nat) (l : List Nat) : reg r (b :: l) = reg (upd r b) l := rfl
theorem upd_lt {r b : Nat} (h : r < 4294967296) (hb : b < 256) : upd r b < 4294967296 := stN_lt (Nat.xor_lt_two_pow (n := 32) h (by omega))
theorem reg_lt : ∀ (l : List Nat) {r : Nat}, r < 4294967296 → (∀ b ∈ l, b < 256) → reg r l < 4294967296 := by
  intro l
  induction l with
  | nil => intro r h _; exact h
  | cons b l ih => intro r h hl; exact ih (upd_lt h (hl b (List.mem_cons_self ..))) fun x hx => hl x (List.mem_cons_of_mem _ hx)
/-- Byte by byte, exclusive or. -/
def zip2 (a b : List Nat) : List Nat := List.zipWith (· ^^^ ·) a b
theorem upd_xor (r q b c : Nat) : upd (r ^^^ q) (b ^^^ c) = upd r b ^^^ upd q c := by
  unfold upd
  rw [xor4, stN_xor]
/-- The register is linear. -/
theorem reg_xor : ∀ (a b : List Nat) (r q : Nat), a.length = b.length → reg (r ^^^ q) (zip2 a b) = reg r a ^^^ reg q b := by
  intro a
  induction a with
  | nil =>
    intro b r q h
    obtain rfl : b = [] := List.eq_nil_of_length_eq_zero h.symm
    rfl
  | cons x a ih =>
    intro b r q h
    cases b with
    | nil => simp at h
    | cons y b =>
      show reg (upd (r ^^^ q) (x ^^^ y)) (zip2 a b) = _
      rw [upd_xor]
      exact ih b _ _ (by simpa using h)
/-- So many bytes at once. -/
theorem reg_word : ∀ (l : List Nat) (r : Nat), reg r l = stN (8 * l.length) (r ^^^ word l) := by
  intro l
  induction l with
  | nil => intro r; simp [reg, word, stN]
  | cons b l ih =>
    intro r
    rw [reg_cons, ih, word, List.length_cons, show 8 * (l.length + 1) = 8 + 8 * l.length by omega, stN_add, ← Nat.xor_assoc, stN_xor 8 (r ^^^ b), show word l * 256 = word l * 2 ^ 8 from rfl, stN_up]
    rfl
theorem reg_zero_bytes (n : Nat) (r : Nat) : reg r (List.replicate n 0) = stN (8 * n) r := by
  rw [reg_word]
  have : ∀ n, word (List.replicate n 0) = 0 := by
    intro n
    induction n with
    | zero => rfl
    | succ n ih => rw [List.replicate_succ, word, ih]; rfl
  rw [this, List.length_replicate, Nat.xor_zero]
theorem word_zero : ∀ (l : List Nat), (∀ b ∈ l, b < 256) → word l = 0 → ∀ b ∈ l, b = 0 := by
  intro l
  induction l with
  | nil => intro _ _ b hb; cases hb
  | cons b l ih =>
    intro h h0
    rw [word] at h0
    have e : b = word l * 256 := xor_eq h0
    have hb := h b (List.mem_cons_self ..)
    have hw : word l = 0 := by omega
    intro x hx
    rcases List.mem_cons.1 hx with rfl | hx
    · omega
    · exact ih (fun y hy => h y (List.mem_cons_of_mem _ hy)) hw x hx
/-- Four bytes at most, zeros around: the register is 0 just if they all are. -/
theorem burst (i j : Nat) (l : List Nat) (h4 : l.length ≤ 4) (hb : ∀ b ∈ l, b < 256) (h0 : reg 0 (List.replicate i 0 ++ l ++ List.replicate j 0) = 0) : ∀ b ∈ l, b = 0 := by
  have hw : word l < 4294967296 := Nat.lt_of_lt_of_le (word_lt l hb) (Nat.pow_le_pow_right (n := 256) (by decide) h4)
  rw [reg_append, reg_append, reg_zero_bytes, reg_zero_bytes, stN_of_zero, reg_word, Nat.zero_xor] at h0
  exact word_zero l hb (stN_zero hw (stN_zero (stN_lt hw) h0))
theorem xor_cancel {a b c : Nat} (h : a ^^^ b = a ^^^ c) : b = c := by
  have : a ^^^ (a ^^^ b) = a ^^^ (a ^^^ c) := by rw [h]
  rwa [← Nat.xor_assoc, ← Nat.xor_assoc, Nat.xor_self, Nat.zero_xor, Nat.zero_xor] at this
/-- Two lists that are unlike within four alone come to unlike registers. -/
theorem unlike (r : Nat) (i j : Nat) (a b : List Nat) (hl : a.length = b.length) (m : List Nat) (h4 : m.length ≤ 4) (hm : ∀ x ∈ m, x < 256) (hd : zip2 a b = List.replicate i 0 ++ m ++ List.replicate j 0) (h : reg r a = reg r b) : ∀ x ∈ m, x = 0 := by
  have e := reg_xor a b r r hl
  rw [h, Nat.xor_self, Nat.xor_self, hd] at e
  exact burst i j m h4 hm e
/-- The four bytes of a number, the lowest first. -/
def four (n : Nat) : List Nat := [n % 256, n / 256 % 256, n / 65536 % 256, n / 16777216 % 256]
theorem xor_add (a b : Nat) (h : a < 256) : a ^^^ (b * 256) = a + b * 256 := by
  apply Nat.eq_of_testBit_eq
  intro j
  have e1 := Nat.testBit_two_pow_mul_add b (i := 8) (b := a) h j
  have e2 := Nat.testBit_two_pow_mul_add b (i := 8) (b := 0) (by decide) j
  rw [show a + b * 256 = 2 ^ 8 * b + a by omega, e1, Nat.testBit_xor, show b * 256 = 2 ^ 8 * b + 0 by omega, e2]
  by_cases hj : j < 8
  · rw [if_pos hj, if_pos hj]; simp
  · rw [if_neg hj, if_neg hj, Nat.testBit_lt_two_pow (Nat.lt_of_lt_of_le h (Nat.pow_le_pow_right (n := 2) (by decide) (show 8 ≤ j by omega)))]
    simp
theorem word_four (n : Nat) (h : n < 4294967296) : word (four n) = n := by
  unfold four word word word word word
  rw [Nat.zero_mul, Nat.xor_zero, xor_add _ _ (by omega), xor_add _ _ (by omega), xor_add _ _ (by omega)]
  omega
/-- A text with its sum behind comes to this register, and no other four bytes do. -/
theorem sealed (l v : List Nat) (hl : ∀ b ∈ l, b < 256) (hv : v.length = 4) (hb : ∀ b ∈ v, b < 256) : reg 4294967295 (l ++ v) = stN 32 4294967295 ↔ word v = sum l := by
  have hr := reg_lt l (r := 4294967295) (by decide) hl
  have hw : word v < 4294967296 := by have := word_lt v hb; rw [hv] at this; exact this
  rw [reg_append, reg_word, hv]
  have key : stN 32 (reg 4294967295 l ^^^ word v) = stN 32 4294967295 ↔ reg 4294967295 l ^^^ word v = 4294967295 := by
    constructor
    · intro h
      have h2 : stN 32 (reg 4294967295 l ^^^ word v ^^^ 4294967295) = 0 := by rw [stN_xor, h, Nat.xor_self]
      exact xor_eq (stN_zero (Nat.xor_lt_two_pow (n := 32) (Nat.xor_lt_two_pow (n := 32) hr hw) (by decide)) h2)
    · intro h; rw [h]
  rw [show 8 * 4 = 32 from rfl, key]
  unfold sum
  generalize reg 4294967295 l = x
  generalize 4294967295 = f
  constructor
  · intro h
    rw [← h, Nat.xor_comm x, Nat.xor_assoc, Nat.xor_self, Nat.xor_zero]
  · intro h
    rw [h, Nat.xor_comm f, ← Nat.xor_assoc, Nat.xor_self, Nat.zero_xor]
/-- The sum of three texts put together. -/
theorem sum_three (a b c : List Nat) (h1 : a.length = b.length) (h2 : a.length = c.length) : sum (zip2 (zip2 a b) c) = sum a ^^^ sum b ^^^ sum c := by
  unfold sum
  have e := reg_xor (zip2 a b) c (4294967295 ^^^ 4294967295) 4294967295 (by unfold zip2; rw [List.length_zipWith]; omega)
  rw [reg_xor a b 4294967295 4294967295 h1, Nat.xor_self, Nat.zero_xor] at e
  rw [e]
  generalize reg 4294967295 a = x
  generalize reg 4294967295 b = y
  generalize reg 4294967295 c = z
  generalize 4294967295 = f
  rw [xor4 f x f y, Nat.xor_self, Nat.zero_xor, ← Nat.xor_assoc (x ^^^ y), Nat.xor_comm (x ^^^ y) f, Nat.xor_assoc f]
end Go.Proofs.YtpgkhodofhnpnaaDoor.Fm
