/-
  SEVERAL TEXTS IN ONE (a claim has sixty files at most): Fm, Fc, Fe, Fu, Fx: the head of each stands ahead of it. No condition but theirs.
-/
import Derived.Test.YteigglhhnemngaaGreatDoorRows
import Derived.Lib.Hide
import Derived.Test.YteigglhhnemngaaGreatDoorQ01
import Derived.Deep.RegionHeld3
import Derived.Deep.RegionWith
import Derived.Outline
namespace Go.Proofs.YteigglhhnemngaaGreatDoor.Fm
def st (r : Nat) : Nat := if r % 2 = 1 then r / 2 ^^^ 3988292384 else r / 2
def stN : Nat → Nat → Nat
  | 0, r => r
  | k + 1, r => stN k (st r)
def upd (r b : Nat) : Nat := stN 8 (r ^^^ b)
def reg (r : Nat) (l : List Nat) : Nat := l.foldl upd r
def sum (l : List Nat) : Nat := 4294967295 ^^^ reg 4294967295 l
theorem st_lt {r : Nat} (h : r < 4294967296) : st r < 4294967296 := by
  unfold st
  split
  · exact Nat.xor_lt_two_pow (n := 32) (by omega) (by omega)
  · omega
theorem stN_lt {k : Nat} : ∀ {r : Nat}, r < 4294967296 → stN k r < 4294967296 := by
  induction k with
  | zero => intro r h; exact h
  | succ k ih => intro r h; exact ih (st_lt h)
theorem half_xor (a b : Nat) : (a ^^^ b) / 2 = a / 2 ^^^ b / 2 := Nat.xor_div_two
theorem low_xor (a b : Nat) : (a ^^^ b) % 2 = (a % 2 + b % 2) % 2 := by
  have h := Nat.xor_mod_two_eq_one (a := a) (b := b)
  by_cases ha : a % 2 = 1 <;> by_cases hb : b % 2 = 1 <;> by_cases hc : (a ^^^ b) % 2 = 1 <;> simp [ha, hb, hc] at h <;> omega
theorem xor4 (a b c d : Nat) : a ^^^ b ^^^ (c ^^^ d) = a ^^^ c ^^^ (b ^^^ d) := by
  rw [Nat.xor_assoc, Nat.xor_assoc, ← Nat.xor_assoc b c d, Nat.xor_comm b c, Nat.xor_assoc c b d]
theorem st_xor (a b : Nat) : st (a ^^^ b) = st a ^^^ st b := by
  unfold st
  rw [half_xor, low_xor]
  by_cases ha : a % 2 = 1 <;> by_cases hb : b % 2 = 1
  · rw [if_neg (by omega), if_pos ha, if_pos hb, xor4, Nat.xor_self, Nat.xor_zero]
  · rw [if_pos (by omega), if_pos ha, if_neg hb, Nat.xor_assoc, Nat.xor_comm (b / 2), ← Nat.xor_assoc]
  · rw [if_pos (by omega), if_neg ha, if_pos hb, Nat.xor_assoc]
  · rw [if_neg (by omega), if_neg ha, if_neg hb]
theorem stN_xor (k : Nat) : ∀ a b, stN k (a ^^^ b) = stN k a ^^^ stN k b := by
  induction k with
  | zero => intro a b; rfl
  | succ k ih => intro a b; rw [stN, st_xor, ih]; rfl
theorem xor_eq {a b : Nat} (h : a ^^^ b = 0) : a = b := by
  have h2 : a ^^^ b ^^^ b = 0 ^^^ b := by rw [h]
  rwa [Nat.xor_assoc, Nat.xor_self, Nat.xor_zero, Nat.zero_xor] at h2
theorem st_zero {r : Nat} (h : r < 4294967296) (h0 : st r = 0) : r = 0 := by
  unfold st at h0
  split at h0
  · have : r / 2 = 3988292384 := xor_eq h0
    omega
  · omega
theorem stN_zero {k : Nat} : ∀ {r : Nat}, r < 4294967296 → stN k r = 0 → r = 0 := by
  induction k with
  | zero => intro r _ h; exact h
  | succ k ih => intro r h h0; exact st_zero h (ih (st_lt h) h0)
theorem stN_of_zero (k : Nat) : stN k 0 = 0 := by
  induction k with
  | zero => rfl
  | succ k ih => exact ih
theorem stN_add (j k r : Nat) : stN (j + k) r = stN k (stN j r) := by
  induction j generalizing r with
  | zero => rw [Nat.zero_add]; rfl
  | succ j ih => rw [Nat.succ_add, stN, ih]; rfl
theorem stN_up (k : Nat) : ∀ x, stN k (x * 2 ^ k) = x := by
  induction k with
  | zero => intro x; simp [stN]
  | succ k ih =>
    intro x
    have e : st (x * 2 ^ (k + 1)) = x * 2 ^ k := by
      unfold st
      have : x * 2 ^ (k + 1) = 2 * (x * 2 ^ k) := by rw [Nat.pow_succ, ← Nat.mul_assoc, Nat.mul_comm]
      rw [this, if_neg (by omega)]
      omega
    rw [stN, e, ih]
def word : List Nat → Nat
  | [] => 0
  | b :: l => b ^^^ (word l * 256)
theorem word_lt : ∀ (l : List Nat), (∀ b ∈ l, b < 256) → word l < 256 ^ l.length := by
  intro l
  induction l with
  | nil => intro _; simp [word]
  | cons b l ih =>
    intro h
    have h1 := ih fun x hx => h x (List.mem_cons_of_mem _ hx)
    have hb := h b (List.mem_cons_self ..)
    have e : (256 : Nat) ^ (l.length + 1) = 2 ^ (8 * (l.length + 1)) := by rw [show (256 : Nat) = 2 ^ 8 from rfl, ← Nat.pow_mul]
    rw [word, List.length_cons, e]
    refine Nat.xor_lt_two_pow ?_ ?_
    · rw [← e, Nat.pow_succ]
      have : 0 < 256 ^ l.length := Nat.pow_pos (by decide)
      omega
    · rw [← e, Nat.pow_succ]
      exact Nat.mul_lt_mul_of_pos_right h1 (by decide)
theorem reg_append (r : Nat) (a b : List Nat) : reg r (a ++ b) = reg (reg r a) b := by simp [reg]
theorem reg_cons (r b : Nat) (l : List Nat) : reg r (b :: l) = reg (upd r b) l := rfl
theorem upd_lt {r b : Nat} (h : r < 4294967296) (hb : b < 256) : upd r b < 4294967296 := stN_lt (Nat.xor_lt_two_pow (n := 32) h (by omega))
theorem reg_lt : ∀ (l : List Nat) {r : Nat}, r < 4294967296 → (∀ b ∈ l, b < 256) → reg r l < 4294967296 := by
  intro l
  induction l with
  | nil => intro r h _; exact h
  | cons b l ih => intro r h hl; exact ih (upd_lt h (hl b (List.mem_cons_self ..))) fun x hx => hl x (List.mem_cons_of_mem _ hx)
def zip2 (a b : List Nat) : List Nat := List.zipWith (· ^^^ ·) a b
theorem upd_xor (r q b c : Nat) : upd (r ^^^ q) (b ^^^ c) = upd r b ^^^ upd q c := by
  unfold upd
  rw [xor4, stN_xor]
theorem reg_xor : ∀ (a b : List Nat) (r q : Nat), a.length = b.length → reg (r ^^^ q) (zip2 a b) = reg r a ^^^ reg q b := by
  intro a
  induction a with
  | nil =>
    intro b r q h
    obtain rfl : b = [] := List.eq_nil_of_length_eq_zero h.symm
    rfl
  | cons x a ih =>
    intro b r q h
    cases b with
    | nil => simp at h
    | cons y b =>
      show reg (upd (r ^^^ q) (x ^^^ y)) (zip2 a b) = _
      rw [upd_xor]
      exact ih b _ _ (by simpa using h)
theorem reg_word : ∀ (l : List Nat) (r : Nat), reg r l = stN (8 * l.length) (r ^^^ word l) := by
  intro l
  induction l with
  | nil => intro r; simp [reg, word, stN]
  | cons b l ih =>
    intro r
    rw [reg_cons, ih, word, List.length_cons, show 8 * (l.length + 1) = 8 + 8 * l.length by omega, stN_add, ← Nat.xor_assoc, stN_xor 8 (r ^^^ b), show word l * 256 = word l * 2 ^ 8 from rfl, stN_up]
    rfl
theorem reg_zero_bytes (n : Nat) (r : Nat) : reg r (List.replicate n 0) = stN (8 * n) r := by
  rw [reg_word]
  have : ∀ n, word (List.replicate n 0) = 0 := by
    intro n
    induction n with
    | zero => rfl
    | succ n ih => rw [List.replicate_succ, word, ih]; rfl
  rw [this, List.length_replicate, Nat.xor_zero]
theorem word_zero : ∀ (l : List Nat), (∀ b ∈ l, b < 256) → word l = 0 → ∀ b ∈ l, b = 0 := by
  intro l
  induction l with
  | nil => intro _ _ b hb; cases hb
  | cons b l ih =>
    intro h h0
    rw [word] at h0
    have e : b = word l * 256 := xor_eq h0
    have hb := h b (List.mem_cons_self ..)
    have hw : word l = 0 := by omega
    intro x hx
    rcases List.mem_cons.1 hx with rfl | hx
    · omega
    · exact ih (fun y hy => h y (List.mem_cons_of_mem _ hy)) hw x hx
theorem burst (i j : Nat) (l : List Nat) (h4 : l.length ≤ 4) (hb : ∀ b ∈ l, b < 256) (h0 : reg 0 (List.replicate i 0 ++ l ++ List.replicate j 0) = 0) : ∀ b ∈ l, b = 0 := by
  have hw : word l < 4294967296 := Nat.lt_of_lt_of_le (word_lt l hb) (Nat.pow_le_pow_right (n := 256) (by decide) h4)
  rw [reg_append, reg_append, reg_zero_bytes, reg_zero_bytes, stN_of_zero, reg_word, Nat.zero_xor] at h0
  exact word_zero l hb (stN_zero hw (stN_zero (stN_lt hw) h0))
theorem unlike (r : Nat) (i j : Nat) (a b : List Nat) (hl : a.length = b.length) (m : List Nat) (h4 : m.length ≤ 4) (hm : ∀ x ∈ m, x < 256) (hd : zip2 a b = List.replicate i 0 ++ m ++ List.replicate j 0) (h : reg r a = reg r b) : ∀ x ∈ m, x = 0 := by
  have e := reg_xor a b r r hl
  rw [h, Nat.xor_self, Nat.xor_self, hd] at e
  exact burst i j m h4 hm e
def four (n : Nat) : List Nat := [n % 256, n / 256 % 256, n / 65536 % 256, n / 16777216 % 256]
end Go.Proofs.YteigglhhnemngaaGreatDoor.Fm
namespace Go.Proofs.YteigglhhnemngaaGreatDoor
set_option maxRecDepth 100000
open Go.RowKit
set_option linter.unusedVariables false
theorem and_one (r : Nat) : r &&& 1 = r % 2 := Nat.and_one_is_mod r
theorem st_go (r : Nat) (hr : r < 4294967296) : bits .xor .u32 ((r : Int) / 2) (bits .and .u32 3988292384 (-(bits .and .u32 (r : Int) 1) % 4294967296)) = ((Fm.st r : Nat) : Int) := by
  have e1 : bits .and .u32 (r : Int) 1 = ((r % 2 : Nat) : Int) := by
    have := u32_and_nat r 1 hr (by decide)
    rw [and_one] at this
    exact this
  have e2 : ((r : Int) / 2) = ((r / 2 : Nat) : Int) := by omega
  rw [e1, e2]
  unfold Fm.st
  by_cases h : r % 2 = 1
  · rw [if_pos h, h]
    have e3 : bits .and .u32 3988292384 (-((1 : Nat) : Int) % 4294967296) = ((3988292384 : Nat) : Int) := by decide
    rw [e3]
    exact u32_xor_nat _ _ (by omega) (by decide)
  · rw [if_neg h, show r % 2 = 0 by omega]
    have e3 : bits .and .u32 3988292384 (-((0 : Nat) : Int) % 4294967296) = ((0 : Nat) : Int) := by decide
    rw [e3, u32_xor_nat _ _ (by omega) (by decide), Nat.xor_zero]
set_option maxRecDepth 100000 in
theorem clo_any (b r : Nat) (hb : b < 256) (hr : r < 4294967296) (w : World) :
    Calls Tryz.prog 121 #[.int .u8 b, .pointer (some ⟨w.heap.size, 0, none⟩)] (w.alloc (.cells #[.int .u32 r] 42)) fun e w' => e = .returned (.tuple #[]) ∧ w.alloc (.cells #[.int .u32 (Fm.upd r b : Nat)] 42) = w' := by
  have hx : bits .xor .u32 (r : Int) (b : Int) = ((r ^^^ b : Nat) : Int) := u32_xor_nat r b hr (by omega)
  have hxl : r ^^^ b < 4294967296 := Nat.xor_lt_two_pow (n := 32) hr (by omega)
  go_enter Tryz.func121, Tryz.ntmps121
  go_wp2
  clear hx
  go_loopw [7] (fun i wr => ∃ k q : Nat, k ≤ 8 ∧ q < 4294967296 ∧ i = .int .i64 k ∧ Hid (Fm.stN (8 - k) q = Fm.upd r b) ∧ wr = w.alloc (.cells #[.int .u32 q] 42)) (fun i _ => 8 - (intOf i).toNat)
  case atStart => exact ⟨0, r ^^^ b, by omega, hxl, rfl, rfl, rfl⟩
  case round =>
    obtain ⟨k, q, hk, hq, rfl, hs, rfl⟩ := hrel
    by_cases hlt : k < 8
    · have Hg := Lib.hid (st_go q hq)
      have hsl := Fm.st_lt hq
      have hm : Fm.stN (8 - (k + 1)) (Fm.st q) = Fm.stN (8 - k) q := by rw [show 8 - k = (8 - (k + 1)) + 1 by omega]; rfl
      have Hm : Hid (Fm.stN (8 - (k + 1)) (Fm.st q) = Fm.upd r b) := by show _ = _; rw [hm, hs.out]
      clear hm
      go_wp2
      go_roundw
      case rel => exact ⟨k + 1, Fm.st q, by omega, hsl, by go_num, Hm, by rw [Hg.out]⟩
      case measure => simp [intOf]; omega
    · go_wp2
      have hq' : q = Fm.upd r b := by have := hs.out; rw [show 8 - k = 0 by omega] at this; exact this
      go_end0
      exact ⟨rfl, by rw [hq']⟩
def nats (s : ByteArray) : List Nat := s.data.toList.map (·.toNat)
theorem nats_lt (s : ByteArray) : ∀ b ∈ nats s, b < 256 := by
  intro b hb
  obtain ⟨x, _, rfl⟩ := List.mem_map.1 hb
  exact x.toNat_lt
theorem nats_length (s : ByteArray) : (nats s).length = s.size := by simp [nats]
theorem nats_drop (s : ByteArray) (k : Nat) (h : k < s.size) : (nats s).drop k = s[k].toNat :: (nats s).drop (k + 1) := by
  rw [List.drop_eq_getElem_cons (by simpa [nats] using h)]
  simp [nats]
  rfl
def natsAll (L : List ByteArray) : List Nat := L.flatMap nats
theorem natsAll_lt (L : List ByteArray) : ∀ b ∈ natsAll L, b < 256 := by
  intro b hb
  obtain ⟨s, _, h⟩ := List.mem_flatMap.1 hb
  exact nats_lt s b h
theorem natsAll_drop (L : List ByteArray) (k : Nat) (h : k < L.length) : natsAll (L.drop k) = nats L[k] ++ natsAll (L.drop (k + 1)) := by
  rw [List.drop_eq_getElem_cons h]
  rfl
set_option maxRecDepth 100000 in
theorem sum_in (g c : Nat) (L : List ByteArray) (w : World) (hg : g < w.heap.size) (hn : L.length ≤ 1000) (hL : ∀ j (h : j < L.length), w.cell? ⟨g, j, none⟩ = some (.string L[j])) (hs : ∀ s ∈ L, s.size ≤ 9223372036854775807) :
    Calls Tryz.prog 88 #[.slice (some ⟨g, 0, none⟩) L.length c] w fun e w' => e = .returned (.int .u32 (Fm.sum (natsAll L) : Nat)) ∧ Below w.heap.size w w' := by
  go_enter Tryz.func88, Tryz.ntmps88
  go_wp2
  go_loopw [11] (fun i wr => ∃ k r : Nat, k ≤ L.length ∧ r < 4294967296 ∧ i = .int .i64 k ∧ Hid (Fm.reg r (natsAll (L.drop k)) = Fm.reg 4294967295 (natsAll L)) ∧ wr = w.alloc (.cells #[.int .u32 r] 42)) (fun i _ => L.length - (intOf i).toNat)
  case atStart => exact ⟨0, 4294967295, by omega, by omega, rfl, rfl, rfl⟩
  case round =>
    obtain ⟨k, r, hk, hr, rfl, hs1, rfl⟩ := hrel
    by_cases hlt : k < L.length
    · have hsz := hs L[k] (List.getElem_mem _)
      have hcell : (w.alloc (.cells #[.int .u32 r] 42)).cell? ⟨g, k, none⟩ = some (.string L[k]) := by
        rw [World.cell?_alloc_lt w _ ⟨g, k, none⟩ hg]
        exact hL k hlt
      obtain ⟨s, hse⟩ : ∃ s, s = L[k] := ⟨_, rfl⟩
      rw [← hse] at hcell hsz
      have HS := Lib.hid hse
      clear hse
      go_wp2
      go_loopw [17] (fun i wr => ∃ m q : Nat, m ≤ s.size ∧ q < 4294967296 ∧ i = .int .i64 m ∧ Hid (Fm.reg q ((nats s).drop m) = Fm.reg r (nats s)) ∧ wr = w.alloc (.cells #[.int .u32 q] 42)) (fun i _ => s.size - (intOf i).toNat)
      case atStart => exact ⟨0, r, by omega, hr, rfl, rfl, rfl⟩
      case round =>
        obtain ⟨m, q, hm, hq, rfl, hs2, rfl⟩ := hrel
        by_cases hlm : m < s.size
        · have hul := Fm.upd_lt hq s[m].toNat_lt
          have Hs : Hid (Fm.reg (Fm.upd q s[m].toNat) ((nats s).drop (m + 1)) = Fm.reg r (nats s)) := by
            have e := hs2.out
            rw [nats_drop s m hlm, Fm.reg_cons] at e
            exact e
          go_wp2_with (go_at_call 121; refine (clo_any s[m].toNat q s[m].toNat_lt hq _).mono ?_; rintro e w' ⟨rfl, rfl⟩)
          go_roundw
          case rel => exact ⟨m + 1, _, by omega, hul, by go_num, Hs, rfl⟩
          case measure => simp [intOf]; omega
        · have hqr : q = Fm.reg r (nats s) := by
            have e := hs2.out
            rw [List.drop_eq_nil_of_le (by rw [nats_length]; omega)] at e
            exact e
          have Hq := Lib.hid hqr
          clear hqr
          go_wp2
          go_roundw
          case rel =>
            refine ⟨k + 1, q, by omega, hq, by go_num, ?_, rfl⟩
            have e := hs1.out
            rw [natsAll_drop L k hlt, Fm.reg_append, ← HS.out, ← Hq.out] at e
            exact e
          case measure => simp [intOf]; omega
    · have hr1 : r = Fm.reg 4294967295 (natsAll L) := by
        have e := hs1.out
        rw [List.drop_eq_nil_of_le (by omega)] at e
        exact e
      have Hr := Lib.hid hr1
      clear hr1
      go_wp2
      go_ret
      refine ⟨?_, by go_grown⟩
      show Ending.returned (.int .u32 (bits .xor .u32 IntKind.u32.max (r : Int))) = _
      rw [show bits .xor .u32 IntKind.u32.max (r : Int) = ((4294967295 ^^^ r : Nat) : Int) from u32_xor_nat 4294967295 r (by decide) hr, Hr.out]
      rfl
end Go.Proofs.YteigglhhnemngaaGreatDoor
namespace Go.Proofs.YteigglhhnemngaaGreatDoor
set_option maxRecDepth 100000
open Go.RowKit
set_option linter.unusedVariables false
theorem below_new {w w3 : World} {o : Go.Obj} (h : Below (w.alloc o).heap.size (w.alloc o) w3) : Below w.heap.size w w3 :=
  ((Below.refl _ _).alloc (Nat.le_refl _) o).trans (h.mono (by simp))
theorem natsAll_one (s : ByteArray) : natsAll [s] = nats s := by rw [natsAll, List.flatMap_cons, List.flatMap_nil, List.append_nil]
theorem sum_lt (l : List Nat) (h : ∀ b ∈ l, b < 256) : Fm.sum l < 4294967296 := Nat.xor_lt_two_pow (n := 32) (by decide) (Fm.reg_lt l (by decide) h)
def seaC (n : Nat) : Nat → Array Value
  | 0 => #[.int .u8 0, .int .u8 0, .int .u8 0, .int .u8 0]
  | 1 => #[.int .u8 (n % 256 : Nat), .int .u8 0, .int .u8 0, .int .u8 0]
  | 2 => #[.int .u8 (n % 256 : Nat), .int .u8 (n / 256 % 256 : Nat), .int .u8 0, .int .u8 0]
  | 3 => #[.int .u8 (n % 256 : Nat), .int .u8 (n / 256 % 256 : Nat), .int .u8 (n / 65536 % 256 : Nat), .int .u8 0]
  | _ => #[.int .u8 (n % 256 : Nat), .int .u8 (n / 256 % 256 : Nat), .int .u8 (n / 65536 % 256 : Nat), .int .u8 (n / 16777216 % 256 : Nat)]
def footS (n : Nat) : ByteArray := ⟨((Fm.four n).map UInt8.ofNat).toArray⟩
theorem arr4_under : Tryz.prog.underlying 163 = some (.array (Tryz.prog.arrayLen 163) (Tryz.prog.elem 163)) := by kernel_rfl
theorem arr4_len : Tryz.prog.arrayLen 163 = 4 := by kernel_rfl
theorem arr4_elem (w : World) : (Go.sizeOf (Tryz.prog.elem 163)).run Tryz.prog w = .ok 1 w := by kernel_rfl
theorem sl_all (a : Addr) (wx : World) :
    (Instr.sliceAt 163 (.pointer (some a)) none none none).run Tryz.prog wx = .ok (.slice (some a) 4 4) wx := by
  rw [run_sliceAt_array_all wx _ a arr4_under, arr4_elem, arr4_len]
  simp [Result.andThen, slicedAt, Addr.add]
theorem conv_four (n : Nat) (w : World) :
    (convert 43 9 (.slice (some ⟨w.heap.size, 0, none⟩) 4 4)).run Tryz.prog (w.alloc (.cells (seaC n 4) 163)) = .ok (.string (footS n)) (w.alloc (.cells (seaC n 4) 163)) :=
  run_convert_bytes_back (P := Tryz.prog) (w.alloc (.cells (seaC n 4) 163)) 43 9 5 ⟨w.heap.size, 0, none⟩ 4 ((Fm.four n).map UInt8.ofNat) u_bytes u_byte u_string (fun j hj => by
    have e : (⟨w.heap.size, 0, none⟩ : Addr).add j = ⟨w.heap.size, j, none⟩ := by unfold Addr.add; split <;> simp_all
    rw [e, cell_new]
    have hj4 : j < 4 := by simpa [Fm.four] using hj
    rcases (by omega : j = 0 ∨ j = 1 ∨ j = 2 ∨ j = 3) with rfl | rfl | rfl | rfl <;> simp [seaC, Fm.four, UInt8.toNat_ofNat'])
set_option maxRecDepth 100000 in
theorem end_in (g c : Nat) (L : List ByteArray) (w : World) (hg : g < w.heap.size) (hn : L.length ≤ 1000) (hL : ∀ j (h : j < L.length), w.cell? ⟨g, j, none⟩ = some (.string L[j])) (hs : ∀ s ∈ L, s.size ≤ 9223372036854775807) :
    Calls Tryz.prog 49 #[.slice (some ⟨g, 0, none⟩) L.length c] w fun e w' => e = .returned (.string (footS (Fm.sum (natsAll L)))) ∧ Below w.heap.size w w' := by
  go_enter Tryz.func49, Tryz.ntmps49
  go_wp2_with fail
  refine (sum_in g c L w hg hn hL hs).mono ?_
  rintro e w1 ⟨rfl, hb⟩
  have hlt := sum_lt (natsAll L) (natsAll_lt L)
  obtain ⟨n, hn1⟩ : ∃ n, n = Fm.sum (natsAll L) := ⟨_, rfl⟩
  rw [← hn1] at hlt ⊢
  have HN := Lib.hid hn1
  clear hn1
  go_wp2_with fail
  go_loopw [8] (fun i wr => ∃ k : Nat, k ≤ 4 ∧ i = .int .i64 k ∧ wr = w1.alloc (.cells (seaC n k) 163)) (fun i _ => 4 - (intOf i).toNat)
  case atStart => exact ⟨0, by omega, rfl, rfl⟩
  case round =>
    obtain ⟨k, hk, rfl, rfl⟩ := hrel
    by_cases hlt : k < 4
    · rcases (by omega : k = 0 ∨ k = 1 ∨ k = 2 ∨ k = 3) with rfl | rfl | rfl | rfl
      all_goals unfold seaC
      all_goals go_wp2
      all_goals go_roundw
      case rel => exact ⟨1, by omega, by go_num, rfl⟩
      case rel => exact ⟨2, by omega, by go_num, rfl⟩
      case rel => exact ⟨3, by omega, by go_num, rfl⟩
      case rel => exact ⟨4, by omega, by go_num, by rw [show (n : Int) / 16777216 = ((n / 16777216 % 256 : Nat) : Int) by omega]; rfl⟩
      all_goals (simp [intOf])
    · obtain rfl : k = 4 := by omega
      have HS := sl_all ⟨w1.heap.size, 0, none⟩
      have HC := conv_four n w1
      go_wp2
      go_ret
      exact ⟨by rw [← HN.out]; rfl, hb.alloc hb.size _⟩
def numS (n : Nat) : ByteArray := ⟨(Vm.put n).toArray⟩
def frameS (b : ByteArray) : ByteArray := numS b.size ++ b ++ footS (Fm.sum (nats (numS b.size ++ b)))
theorem numS_size (n : Nat) : (numS n).size = (Vm.put n).length := by simp [numS, ByteArray.size]
theorem footS_size (n : Nat) : (footS n).size = 4 := rfl
theorem nats_append (a b : ByteArray) : nats (a ++ b) = nats a ++ nats b := by simp [nats, ByteArray.data_append]
theorem natsAll_two (a b : ByteArray) : natsAll [a, b] = nats (a ++ b) := by
  rw [natsAll, List.flatMap_cons, List.flatMap_cons, List.flatMap_nil, List.append_nil, nats_append]
theorem put_n (n : Nat) (hn : n < 18446744073709551616) (w : World) :
    Calls Tryz.prog 52 #[.int .u64 n] w fun e w' => e = .returned (.string (numS n)) ∧ Below w.heap.size w w' := put_any n hn w
set_option maxRecDepth 100000 in
theorem wrap_any (b : ByteArray) (h1 : b.size + (numS b.size).size + 4 ≤ 16777216) (w : World) :
    Calls Tryz.prog 27 #[.string b] w fun e w' => e = .returned (.tuple #[.string (frameS b), .int .i64 0]) ∧ Below w.heap.size w w' := by
  have hl := Vm.put_len b.size
  have hz := numS_size b.size
  have hz1 : 1 ≤ (numS b.size).size := by omega
  have hz2 : (numS b.size).size ≤ 10 := by omega
  clear hz hl
  go_enter Tryz.func27, Tryz.ntmps27
  go_wp2_with fail
  refine (put_n b.size (by omega) w).mono ?_
  rintro e w1 ⟨rfl, b1⟩
  go_wp2_with fail
  have hL : ∀ j (h : j < [numS b.size, b].length), (w1.alloc (.cells #[.string (numS b.size), .string b] 9)).cell? ⟨w1.heap.size, j, none⟩ = some (.string [numS b.size, b][j]) := by
    intro j hj
    rcases (by simp at hj; omega : j = 0 ∨ j = 1) with rfl | rfl
    · rw [cell_new]; rfl
    · rw [cell_new]; rfl
  refine (end_in w1.heap.size 2 [numS b.size, b] _ (by simp) (by simp) hL (by intro s hs; simp at hs; rcases hs with rfl | rfl <;> omega)).mono ?_
  rintro e w2 ⟨rfl, b2⟩
  rw [natsAll_two]
  have b3 := below_new b2
  have hf := footS_size (Fm.sum (nats (numS b.size ++ b)))
  have ha : (numS b.size ++ b).size ≤ 16777212 := by rw [ByteArray.size_append]; omega
  clear hL b2
  go_wp2_with fail
  go_ret2
  exact ⟨rfl, b1.trans (b3.mono b1.size)⟩
end Go.Proofs.YteigglhhnemngaaGreatDoor
namespace Go.Proofs.YteigglhhnemngaaGreatDoor
set_option maxRecDepth 100000
open Go.ChangeShapes Go.WideShapes Go.ChangeAt Go.RowKit Go.ChangeMaps
set_option linter.unusedVariables false
theorem get_isF (s : ByteArray) (n size e : Nat) (hs : s.size ≤ 9223372036854775807) (h : Vm.get (bytes s) = (n, size, e)) (w : World) :
    Calls Tryz.prog 48 #[.string s] w fun r w' => r = .returned (.tuple #[.int .u64 n, .int .i64 size, .int .i64 e]) ∧ w = w' := by
  have := get_any s hs w
  rw [h] at this
  exact this
theorem one_cell (W : World) (x : ByteArray) : ∀ j (h : j < [x].length), (W.alloc (.cells #[.string x] 9)).cell? ⟨W.heap.size, j, none⟩ = some (.string [x][j]) := by
  intro j hj
  obtain rfl : j = 0 := by simp at hj; omega
  rw [cell_new]
  rfl
def UnwIs (s t : ByteArray) (place e : Nat) : Prop := ∀ w : World, Calls Tryz.prog 22 #[.string s] w fun r w' => r = .returned (.tuple #[.string t, .int .i64 place, .int .i64 e]) ∧ Below w.heap.size w w'
set_option maxRecDepth 100000 in
theorem u_bad (s : ByteArray) (e : Nat) (he : e ≠ 0) (h : s.size ≤ 16777216) (hg : Vm.get (bytes s) = (0, 0, e)) : UnwIs s ⟨#[]⟩ 0 e := by
  intro w
  have hb : ((e : Int) != 0) = true := by simp; omega
  have Hg := Lib.hid hg
  clear hg he
  go_enter Tryz.func22, Tryz.ntmps22
  go_wp2_with fail
  refine (get_isF s 0 0 e (by omega) Hg.out _).mono ?_
  rintro r w' ⟨rfl, rfl⟩
  go_wp2_with fail
  go_ret3
  exact ⟨rfl, Below.refl _ _⟩
set_option maxRecDepth 100000 in
theorem u_range (s : ByteArray) (n size : Nat) (h : s.size ≤ 16777216) (hn : 16777216 < n) (hg : Vm.get (bytes s) = (n, size, 0)) : UnwIs s ⟨#[]⟩ 0 20 := by
  intro w
  have Hg := Lib.hid hg
  clear hg
  go_enter Tryz.func22, Tryz.ntmps22
  go_wp2_with fail
  refine (get_isF s n size 0 (by omega) Hg.out _).mono ?_
  rintro r w' ⟨rfl, rfl⟩
  go_wp2_with fail
  go_ret3
  exact ⟨rfl, Below.refl _ _⟩
set_option maxRecDepth 100000 in
theorem u_short (s : ByteArray) (n size : Nat) (h : s.size ≤ 16777216) (hn : n ≤ 16777216) (hz : size ≤ 10) (hl : s.size < size + n + 4) (hg : Vm.get (bytes s) = (n, size, 0)) : UnwIs s ⟨#[]⟩ s.size 8 := by
  intro w
  have Hg := Lib.hid hg
  clear hg
  go_enter Tryz.func22, Tryz.ntmps22
  go_wp2_with fail
  refine (get_isF s n size 0 (by omega) Hg.out _).mono ?_
  rintro r w' ⟨rfl, rfl⟩
  go_wp2_with fail
  go_ret3
  exact ⟨rfl, Below.refl _ _⟩
set_option maxRecDepth 100000 in
theorem u_long (s : ByteArray) (n size : Nat) (h : s.size ≤ 16777216) (hn : n ≤ 16777216) (hz : size ≤ 10) (hl : size + n + 4 < s.size) (hg : Vm.get (bytes s) = (n, size, 0)) : UnwIs s ⟨#[]⟩ (size + n + 4) 10 := by
  intro w
  have Hg := Lib.hid hg
  clear hg
  go_enter Tryz.func22, Tryz.ntmps22
  go_wp2_with fail
  refine (get_isF s n size 0 (by omega) Hg.out _).mono ?_
  rintro r w' ⟨rfl, rfl⟩
  go_wp2_with fail
  go_ret3
  exact ⟨rfl, Below.refl _ _⟩
set_option maxRecDepth 100000 in
theorem u_sum (s : ByteArray) (n size : Nat) (h : s.size ≤ 16777216) (hz : size ≤ 10) (hl : s.size = size + n + 4) (hg : Vm.get (bytes s) = (n, size, 0))
    (hf : ((s.extract (size + n) s.size).toList == (footS (Fm.sum (nats (s.extract 0 (size + n))))).toList) = false) : UnwIs s ⟨#[]⟩ (size + n) 9 := by
  intro w
  have Hg := Lib.hid hg
  have Hf := Lib.hid hf
  have h1 : ¬ s.size < size + n + 4 := by omega
  have h2 : ¬ size + n + 4 < s.size := by omega
  have h3 : n ≤ 16777216 := by omega
  clear hg hl hf
  go_enter Tryz.func22, Tryz.ntmps22
  go_wp2_with fail
  refine (get_isF s n size 0 (by omega) Hg.out _).mono ?_
  rintro r w' ⟨rfl, rfl⟩
  go_wp2_with fail
  have g1 : (0 : Int) ≤ (size : Int) + (n : Int) := by omega
  have g2 : (size : Int) + (n : Int) ≤ (s.size : Int) := by omega
  have hx : (s.extract 0 (size + n)).size ≤ 9223372036854775807 := by rw [ByteArray.size_extract]; omega
  have hL : ∀ W : World, ∀ j (h : j < [s.extract 0 (size + n)].length), (W.alloc (.cells #[.string (s.extract 0 (size + n))] 9)).cell? ⟨W.heap.size, j, none⟩ = some (.string [s.extract 0 (size + n)][j]) := fun W => one_cell W _
  clear h1 h2 h3
  have HL := Lib.hid hL
  clear hL
  go_region_with (first | (go_at_call 49; refine (end_in _ 1 [s.extract 0 (size + n)] _ (by simp) (by simp) (by first | exact HL.out _ | exact HL.out w) (by simpa using hx)).mono ?_; rintro e w3 ⟨rfl, b3⟩))
  all_goals
    have b4 := below_first b3
    clear b3 hx g1 g2
    have e3 : ((size : Int) + (n : Int)).toNat = size + n := by omega
    have e4 := Hf.out
    rw [← natsAll_one] at e4
    have e5 : (!((s.extract (size + n) s.size).toList == (footS (Fm.sum (natsAll [s.extract 0 (size + n)]))).toList)) = true := by rw [e4]; rfl
    clear e4
    rw [e3] at *
    go_wp2_with fail
    · go_ret3
      exact ⟨rfl, b4⟩
    · exact absurd (e5.symm.trans (by assumption)) (by decide)
set_option maxRecDepth 100000 in
theorem u_ok (s : ByteArray) (n size : Nat) (h : s.size ≤ 16777216) (hz : size ≤ 10) (hl : s.size = size + n + 4) (hg : Vm.get (bytes s) = (n, size, 0))
    (hf : ((s.extract (size + n) s.size).toList == (footS (Fm.sum (nats (s.extract 0 (size + n))))).toList) = true) : UnwIs s (s.extract size (size + n)) 0 0 := by
  intro w
  have Hg := Lib.hid hg
  have Hf := Lib.hid hf
  have h1 : ¬ s.size < size + n + 4 := by omega
  have h2 : ¬ size + n + 4 < s.size := by omega
  have h3 : n ≤ 16777216 := by omega
  clear hg hl hf
  go_enter Tryz.func22, Tryz.ntmps22
  go_wp2_with fail
  refine (get_isF s n size 0 (by omega) Hg.out _).mono ?_
  rintro r w' ⟨rfl, rfl⟩
  go_wp2_with fail
  have g1 : (0 : Int) ≤ (size : Int) + (n : Int) := by omega
  have g2 : (size : Int) + (n : Int) ≤ (s.size : Int) := by omega
  have g3 : (size : Int) ≤ (size : Int) + (n : Int) := by omega
  have hx : (s.extract 0 (size + n)).size ≤ 9223372036854775807 := by rw [ByteArray.size_extract]; omega
  have hy : (s.extract size (size + n)).size ≤ 281474976710656 := by rw [ByteArray.size_extract]; omega
  have hL : ∀ W : World, ∀ j (h : j < [s.extract 0 (size + n)].length), (W.alloc (.cells #[.string (s.extract 0 (size + n))] 9)).cell? ⟨W.heap.size, j, none⟩ = some (.string [s.extract 0 (size + n)][j]) := fun W => one_cell W _
  clear h1 h2 h3
  have HL := Lib.hid hL
  clear hL
  go_region_with (first | (go_at_call 49; refine (end_in _ 1 [s.extract 0 (size + n)] _ (by simp) (by simp) (by first | exact HL.out _ | exact HL.out w) (by simpa using hx)).mono ?_; rintro e w3 ⟨rfl, b3⟩))
  all_goals
    have b4 := below_first b3
    clear b3 hx
    have e3 : ((size : Int) + (n : Int)).toNat = size + n := by omega
    have e4 := Hf.out
    rw [← natsAll_one] at e4
    have e5 : (!((s.extract (size + n) s.size).toList == (footS (Fm.sum (natsAll [s.extract 0 (size + n)]))).toList)) = false := by rw [e4]; rfl
    clear e4
    rw [e3] at *
    go_wp2_with fail
    · exact absurd (e5.symm.trans (by assumption)) (by decide)
    · refine (clone_any _ _ hy).mono ?_
      rintro e w5 ⟨rfl, b5⟩
      go_wp2_with fail
      go_ret3
      exact ⟨rfl, b4.trans (b5.mono b4.size)⟩
end Go.Proofs.YteigglhhnemngaaGreatDoor
namespace Go.Proofs.YteigglhhnemngaaGreatDoor
set_option maxRecDepth 100000
open Go.RowKit
set_option linter.unusedVariables false
theorem bytes_append (a b : ByteArray) : bytes (a ++ b) = bytes a ++ bytes b := by simp [bytes, ByteArray.data_append]
theorem bytes_numS (n : Nat) : bytes (numS n) = Vm.put n := by simp [bytes, numS]
theorem bytes_inj {a b : ByteArray} (h : bytes a = bytes b) : a = b := by
  apply ByteArray.ext
  apply Array.toList_inj.1
  exact h
theorem bytes_length (a : ByteArray) : (bytes a).length = a.size := by simp [bytes]
theorem bytes_extract (a : ByteArray) (i j : Nat) : bytes (a.extract i j) = ((bytes a).take j).drop i := by
  rw [bytes, Lib.extract_data, bytes, List.drop_take]
theorem toList_bytes (a : ByteArray) : a.toList = bytes a := ByteArray.toList_eq ..
theorem test_bytes (a b : ByteArray) : (a.toList == b.toList) = decide (bytes a = bytes b) := by
  rw [toList_bytes, toList_bytes]
  by_cases h : bytes a = bytes b <;> simp [h]
theorem get_frame (n : Nat) (hn : n < 18446744073709551616) (r : List UInt8) (s : ByteArray) (h : bytes s = Vm.put n ++ r) : Vm.get (bytes s) = (n, (numS n).size, 0) := by
  rw [h, Vm.get_put' n hn, numS_size]
theorem numS_le (n : Nat) : 1 ≤ (numS n).size ∧ (numS n).size ≤ 10 := by rw [numS_size]; exact Vm.put_len n
section
variable (b : ByteArray)
theorem frame_bytes : bytes (frameS b) = Vm.put b.size ++ (bytes b ++ bytes (footS (Fm.sum (nats (numS b.size ++ b))))) := by
  rw [frameS, bytes_append, bytes_append, bytes_numS, List.append_assoc]
theorem frame_size : (frameS b).size = (numS b.size).size + b.size + 4 := by
  rw [frameS, ByteArray.size_append, ByteArray.size_append, footS_size]
end
theorem opened (n : Nat) (hn : n < 18446744073709551616) (m f : List UInt8) (hm : m.length = n) (hf : f.length = 4) (s : ByteArray) (h : bytes s = Vm.put n ++ (m ++ f)) :
    s.size = (numS n).size + n + 4 ∧ bytes (s.extract ((numS n).size + n) s.size) = f ∧ bytes (s.extract 0 ((numS n).size + n)) = Vm.put n ++ m ∧ bytes (s.extract (numS n).size ((numS n).size + n)) = m := by
  have hz := numS_size n
  have hs : s.size = (numS n).size + n + 4 := by
    rw [← bytes_length, h, List.length_append, List.length_append, hm, hf, hz]
    omega
  refine ⟨hs, ?_, ?_, ?_⟩
  · rw [bytes_extract, ← bytes_length s, List.take_length, h, ← List.append_assoc, List.drop_left' (by rw [List.length_append, hm, hz])]
  · rw [bytes_extract, List.drop_zero, h, ← List.append_assoc, List.take_left' (by rw [List.length_append, hm, hz])]
  · rw [bytes_extract, h, ← List.append_assoc, List.take_left' (by rw [List.length_append, hm, hz]), List.drop_left' (by rw [hz])]
theorem frame_back (b : ByteArray) (h : (frameS b).size ≤ 16777216) : UnwIs (frameS b) b 0 0 := by
  have hz := numS_le b.size
  have he := frame_size b
  obtain ⟨e1, e2, e3, e4⟩ := opened b.size (by omega) (bytes b) _ (bytes_length b) (by rw [bytes_length, footS_size]) (frameS b) (frame_bytes b)
  have e5 : (frameS b).extract 0 ((numS b.size).size + b.size) = numS b.size ++ b := bytes_inj (by rw [e3, bytes_append, bytes_numS])
  have e6 : (frameS b).extract (numS b.size).size ((numS b.size).size + b.size) = b := bytes_inj e4
  have := u_ok (frameS b) b.size (numS b.size).size h hz.2 e1 (get_frame b.size (by omega) _ _ (frame_bytes b)) (by rw [test_bytes, e2, e5]; simp)
  rwa [e6] at this
def ToldF (s t : ByteArray) (place e : Nat) : Prop := (e ≠ 0 ∧ t = ⟨#[]⟩ ∧ place ≤ s.size) ∨ (e = 0 ∧ place = 0 ∧ frameS t = s)
end Go.Proofs.YteigglhhnemngaaGreatDoor
