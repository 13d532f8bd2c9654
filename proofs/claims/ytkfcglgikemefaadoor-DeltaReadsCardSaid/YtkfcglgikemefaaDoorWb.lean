/-
  PLAIN: an event's text and the event of a text, as package event goes about it; an event that may be is read out of its text. No program here.
-/
import Derived.Test.YtkfcglgikemefaaDoorWa
import Derived.Lib.ItoaNum
import Derived.Lib.ParseIntBCases
import Derived.Lib.Join
import Derived.Lib.Bytealg
namespace Go.Proofs.YtkfcglgikemefaaDoor
set_option maxRecDepth 100000
set_option linter.unusedVariables false
open Go.Lib
/-- The Kinds' names. -/
def nmL (k : Nat) : List UInt8 :=
  match k with
  | 1 => [98, 101, 103, 105, 110]
  | 2 => [108, 111, 111, 107]
  | 3 => [108, 111, 97, 100]
  | 4 => [108, 111, 99, 107]
  | 5 => [98, 117, 109, 112]
  | 6 => [99, 104, 101, 99, 107]
  | 7 => [99, 111, 109, 109, 105, 116]
  | 8 => [115, 116, 111, 114, 101]
  | 9 => [102, 114, 101, 101]
  | 10 => [97, 98, 111, 114, 116]
  | 11 => [117, 110, 100, 111]
  | 12 => [119, 97, 105, 116]
  | 13 => [119, 97, 107, 101]
  | _ => []
/-- The Kind of a name, 0 if there is none. -/
def kindF (s : List UInt8) : Nat := ((List.range' 1 13).find? fun k => nmL k == s).getD 0
theorem r13 : List.range' 1 13 = [1, 2, 3, 4, 5, 6, 7, 8, 9, 10, 11, 12, 13] := rfl
theorem kindF_nm {k : Nat} (h1 : 1 ≤ k) (h2 : k ≤ 13) : kindF (nmL k) = k := by
  have : k = 1 ∨ k = 2 ∨ k = 3 ∨ k = 4 ∨ k = 5 ∨ k = 6 ∨ k = 7 ∨ k = 8 ∨ k = 9 ∨ k = 10 ∨ k = 11 ∨ k = 12 ∨ k = 13 := by omega
  rcases this with rfl | rfl | rfl | rfl | rfl | rfl | rfl | rfl | rfl | rfl | rfl | rfl | rfl <;> rfl
theorem kindF_none {s : List UInt8} (h : ∀ k, 1 ≤ k → k ≤ 13 → nmL k ≠ s) : kindF s = 0 := by
  unfold kindF
  rw [List.find?_eq_none.2]
  · rfl
  · intro k hk
    rw [List.mem_range'_1] at hk
    simpa using h k (by omega) (by omega)
theorem kindF_le (s : List UInt8) : kindF s ≤ 13 := by
  unfold kindF
  cases h : (List.range' 1 13).find? fun k => nmL k == s with
  | none => simp
  | some k =>
    have := List.mem_of_find?_eq_some h
    rw [List.mem_range'_1] at this
    simp only [Option.getD_some]
    omega
theorem kindF_pos {s : List UInt8} (h : kindF s ≠ 0) : nmL (kindF s) = s := by
  unfold kindF at h ⊢
  cases hf : (List.range' 1 13).find? fun k => nmL k == s with
  | none => rw [hf] at h; simp at h
  | some k => simpa using List.find?_some hf
/-- What is ahead of the first space, and what is behind it. -/
def cut1 : List UInt8 → List UInt8 × List UInt8
  | [] => ([], [])
  | c :: r => if c = 32 then ([], r) else (c :: (cut1 r).1, (cut1 r).2)
theorem cut1_no {s : List UInt8} (h : indexByte s 32 = -1) : cut1 s = (s, []) := by
  induction s with
  | nil => rfl
  | cons c r ih =>
    simp only [indexByte] at h
    split at h
    · simp at h
    · rename_i hc
      have hc' : c ≠ 32 := by simpa using hc
      split at h
      · rename_i h2
        rw [cut1, if_neg hc', ih (by simpa using h2)]
      · rename_i h2
        have := indexByte_ge r 32
        have h2' : indexByte r 32 ≠ -1 := by simpa using h2
        omega
theorem cut1_at {s : List UInt8} {k : Nat} (h : indexByte s 32 = k) : cut1 s = (s.take k, s.drop (k + 1)) ∧ k < s.length := by
  induction s generalizing k with
  | nil => simp [indexByte] at h
  | cons c r ih =>
    simp only [indexByte] at h
    split at h
    · rename_i hc
      have hc' : c = 32 := by simpa using hc
      obtain rfl : k = 0 := by omega
      simp [cut1, hc']
    · rename_i hc
      have hc' : c ≠ 32 := by simpa using hc
      split at h
      · omega
      · rename_i h2
        have h2' : indexByte r 32 ≠ -1 := by simpa using h2
        have := indexByte_ge r 32
        obtain ⟨j, hj⟩ : ∃ j : Nat, indexByte r 32 = j := ⟨(indexByte r 32).toNat, by omega⟩
        obtain rfl : k = j + 1 := by omega
        obtain ⟨e1, e2⟩ := ih hj
        rw [cut1, if_neg hc', e1]
        refine ⟨by simp, by simp; omega⟩
theorem cut1_len (s : List UInt8) : (cut1 s).1.length ≤ s.length ∧ (cut1 s).2.length ≤ s.length := by
  induction s with
  | nil => simp [cut1]
  | cons c r ih =>
    rw [cut1]
    split
    · simp
    · simp; omega
/-- A word: no space in it. -/
def Word (w : List UInt8) : Prop := ∀ c ∈ w, c ≠ 32
theorem cut1_word {w : List UInt8} (h : Word w) : cut1 w = (w, []) := by
  induction w with
  | nil => rfl
  | cons c r ih => rw [cut1, if_neg (h c (by simp)), ih (fun d hd => h d (by simp [hd]))]
theorem cut1_words {w r : List UInt8} (h : Word w) : cut1 (w ++ 32 :: r) = (w, r) := by
  induction w with
  | nil => simp [cut1]
  | cons c t ih => rw [List.cons_append, cut1, if_neg (h c (by simp)), ih (fun d hd => h d (by simp [hd]))]
/-- What a word tells: of one that is no number, some other one. -/
def numF (w : List UInt8) : Int := match parseIntB 64 w with
  | .ok n => n
  | .range => intSat 64 w
  | _ => 0
/-- An event's words, and its text. -/
def partW (c : Nat → Int) (l : List Part) : List (List UInt8) := l.map fun p => itoa (c p.wh)
def wordsF (e : Ev) : List (List UInt8) := decDigits e.th.toNat :: nmL e.kd.toNat :: partW (numC e) (partsK e.kd.toNat 32 32)
def showF (e : Ev) : List UInt8 := join (wordsF e) [32]
/-- What is read for each thing that a Kind has. -/
def fillF : List Part → List UInt8 → (Nat → Int) → List UInt8 × (Nat → Int)
  | [], s, c => (s, c)
  | p :: r, s, c => fillF r (cut1 s).2 (put5 c p.wh (numF (cut1 s).1))
theorem fillF_snoc (l : List Part) (p : Part) (s : List UInt8) (c : Nat → Int) : fillF (l ++ [p]) s c = ((cut1 (fillF l s c).1).2, put5 (fillF l s c).2 p.wh (numF (cut1 (fillF l s c).1).1)) := by
  induction l generalizing s c with
  | nil => rfl
  | cons q r ih => simp only [List.cons_append, fillF]; exact ih _ _
theorem fillF_len (l : List Part) (s : List UInt8) (c : Nat → Int) : (fillF l s c).1.length ≤ s.length := by
  induction l generalizing s c with
  | nil => exact Nat.le_refl _
  | cons q r ih => exact Nat.le_trans (ih _ _) (cut1_len s).2
/-- The event that has these numbers. -/
def evOf (kd th : Int) (c : Nat → Int) : Ev := ⟨kd, th, c 0, c 1, c 2, c 3, c 4 % 256⟩
/-- What a text's words tell, as far as they are an event's. -/
def readF (s : List UInt8) : Ev :=
  let a := cut1 s
  let b := cut1 a.2
  if kindF b.1 = 0 then ev0 else evOf (kindF b.1) (numF a.1) (fillF (partsK (kindF b.1) 32 32) b.2 zeroC).2
/-- The event of a text, and what is wrong. -/
def parseF (s : List UInt8) : Ev × Int := if mayB (readF s) 6 32 32 = true ∧ showF (readF s) = s then (readF s, 0) else (ev0, 4)
/- Numerals. -/
def valD (acc : Nat) (l : List UInt8) : Nat := l.foldl (fun a c => a * 10 + (c.toNat - 48)) acc
def Digs (l : List UInt8) : Prop := ∀ c ∈ l, 48 ≤ c.toNat ∧ c.toNat ≤ 57
theorem valD_ge (l : List UInt8) (acc : Nat) : acc ≤ valD acc l := by
  induction l generalizing acc with
  | nil => exact Nat.le_refl _
  | cons c r ih =>
    have := ih (acc * 10 + (c.toNat - 48))
    have h2 : valD acc (c :: r) = valD (acc * 10 + (c.toNat - 48)) r := rfl
    omega
theorem parseM_ok {M : Nat} (hM : M ≤ 18446744073709551615) (l : List UInt8) (acc : Nat) (hd : Digs l) (hv : valD acc l ≤ M) : parseUintM M acc l = .ok (valD acc l) := by
  induction l generalizing acc with
  | nil => rfl
  | cons c r ih =>
    have h2 : valD acc (c :: r) = valD (acc * 10 + (c.toNat - 48)) r := rfl
    have h3 := valD_ge r (acc * 10 + (c.toNat - 48))
    rw [parseUintM, if_pos (hd c (by simp)), if_neg (by omega), if_neg (by omega), ih _ (fun d hd2 => hd d (by simp [hd2])) (by omega), h2]
theorem ofNat_toNat {n : Nat} (h : n < 256) : (UInt8.ofNat n).toNat = n := by simp [Nat.mod_eq_of_lt h]
theorem decDigits_digs (u : Nat) : Digs (decDigits u) := by
  induction u using Nat.strongRecOn with
  | _ u ih =>
    rw [decDigits]
    split
    · intro c hc
      rw [List.mem_singleton] at hc
      subst hc
      rw [ofNat_toNat (by omega)]
      omega
    · intro c hc
      rcases List.mem_append.1 hc with hc | hc
      · exact ih (u / 10) (by omega) c hc
      · rw [List.mem_singleton] at hc
        subst hc
        rw [ofNat_toNat (by omega)]
        omega
theorem decDigits_val (u : Nat) : valD 0 (decDigits u) = u := by
  induction u using Nat.strongRecOn with
  | _ u ih =>
    rw [decDigits]
    split
    · show 0 * 10 + ((UInt8.ofNat (48 + u)).toNat - 48) = u
      rw [ofNat_toNat (by omega)]
      omega
    · rw [valD, List.foldl_append]
      have h := ih (u / 10) (by omega)
      rw [valD] at h
      rw [h]
      show u / 10 * 10 + ((UInt8.ofNat (48 + u % 10)).toNat - 48) = u
      rw [ofNat_toNat (by omega)]
      omega
theorem decDigits_ne (u : Nat) : decDigits u ≠ [] := by
  rw [decDigits]
  split <;> simp
theorem uintB_dec {u : Nat} (h : u ≤ 18446744073709551615) : parseUintB 64 (decDigits u) = .ok u := by
  rw [parseUintB, if_neg (decDigits_ne u), parseM_ok (by decide) _ _ (decDigits_digs u) (by rw [decDigits_val]; exact h), decDigits_val]
theorem num_nat {u : Nat} (h : u < 9223372036854775808) : numF (decDigits u) = u := by
  obtain ⟨c, r, hc⟩ : ∃ c r, decDigits u = c :: r := by
    cases h2 : decDigits u with
    | nil => exact absurd h2 (decDigits_ne u)
    | cons c r => exact ⟨c, r, rfl⟩
  have hd := decDigits_digs u c (by rw [hc]; simp)
  have hp := uintB_dec (u := u) (by omega)
  unfold numF parseIntB
  rw [hc] at hp ⊢
  simp only
  rw [if_neg (by omega), hp]
  simp only
  rw [if_neg (by omega), if_neg (by omega), if_neg (by omega)]
theorem num_itoa {n : Int} (h1 : -9223372036854775808 ≤ n) (h2 : n ≤ 9223372036854775807) : numF (itoa n) = n := by
  unfold itoa
  split
  · have hp := uintB_dec (u := n.natAbs) (by omega)
    unfold numF parseIntB
    simp only
    rw [if_pos (by decide), hp]
    simp only
    rw [if_neg (by simp), if_neg (by omega), if_pos (by decide)]
    simp only
    omega
  · rw [num_nat (by omega)]
    omega
theorem dig_word {l : List UInt8} (h : Digs l) : Word l := fun c hc e => by
  have := h c hc
  rw [e] at this
  simp at this
theorem itoa_word (n : Int) : Word (itoa n) := by
  unfold itoa
  split
  · intro c hc
    rcases List.mem_cons.1 hc with rfl | hc
    · decide
    · exact dig_word (decDigits_digs _) c hc
  · exact dig_word (decDigits_digs _)
theorem nmL_word (k : Nat) : Word (nmL k) := by
  by_cases h : 1 ≤ k ∧ k ≤ 13
  · have : k = 1 ∨ k = 2 ∨ k = 3 ∨ k = 4 ∨ k = 5 ∨ k = 6 ∨ k = 7 ∨ k = 8 ∨ k = 9 ∨ k = 10 ∨ k = 11 ∨ k = 12 ∨ k = 13 := by omega
    rcases this with rfl | rfl | rfl | rfl | rfl | rfl | rfl | rfl | rfl | rfl | rfl | rfl | rfl <;> simp [Word, nmL]
  · have : nmL k = [] := by
      unfold nmL
      split <;> first | omega | rfl
    rw [this]
    intro c hc
    cases hc
theorem cut1_tail {w : List UInt8} {l : List (List UInt8)} (h : Word w) : cut1 (join (w :: l) [32]) = (w, join l [32]) := by
  cases l with
  | nil => rw [join_one, join_nil, cut1_word h]
  | cons y r =>
    rw [join_cons]
    have : joinTail [32] (y :: r) = 32 :: join (y :: r) [32] := by
      rw [join_cons]
      simp [joinTail]
    rw [this, cut1_words h]
/-- The parts of one Kind are apart. -/
theorem parts_apart (k : Nat) (va st : Int) : ((partsK k va st).map (·.wh)).Nodup := by
  unfold partsK
  split <;> simp
theorem fill_words (l : List Part) (c : Nat → Int) (hc : ∀ i, -9223372036854775808 ≤ c i ∧ c i ≤ 9223372036854775807) (d : Nat → Int) : ∀ i, (fillF l (join (partW c l) [32]) d).2 i = if (l.map (·.wh)).contains i then c i else d i := by
  induction l generalizing d with
  | nil => intro i; rfl
  | cons p r ih =>
    intro i
    have h1 : cut1 (join (partW c (p :: r)) [32]) = (itoa (c p.wh), join (partW c r) [32]) := cut1_tail (itoa_word _)
    show (fillF r (cut1 (join (partW c (p :: r)) [32])).2 (put5 d p.wh (numF (cut1 (join (partW c (p :: r)) [32])).1))).2 i = _
    rw [h1]
    simp only
    rw [num_itoa (hc p.wh).1 (hc p.wh).2, ih]
    by_cases hi : i = p.wh
    · subst hi
      simp [put5]
    · simp [put5, hi]
theorem may_i64 {e : Ev} (h : mayB e 6 32 32 = true) : ∀ i, -9223372036854775808 ≤ numC e i ∧ numC e i ≤ 9223372036854775807 := by
  obtain ⟨_, _, h⟩ := (may_iff _ _ _ _).1 h
  unfold MayK at h
  intro i
  unfold numC
  split
  · omega
  · split
    · omega
    · split
      · omega
      · split
        · omega
        · split
          · omega
          · omega
theorem show_cut {e : Ev} (h : mayB e 6 32 32 = true) : cut1 (showF e) = (decDigits e.th.toNat, join (nmL e.kd.toNat :: partW (numC e) (partsK e.kd.toNat 32 32)) [32]) := cut1_tail (dig_word (decDigits_digs _))
/-- An event that may be is read out of its text. -/
theorem read_show {e : Ev} (h : mayB e 6 32 32 = true) : readF (showF e) = e := by
  have hi := may_i64 h
  obtain ⟨_, ht, hm⟩ := (may_iff _ _ _ _).1 h
  have hk : 1 ≤ e.kd ∧ e.kd ≤ 13 := by
    unfold MayK at hm
    omega
  have h2 : cut1 (join (nmL e.kd.toNat :: partW (numC e) (partsK e.kd.toNat 32 32)) [32]) = (nmL e.kd.toNat, join (partW (numC e) (partsK e.kd.toNat 32 32)) [32]) := cut1_tail (nmL_word _)
  have h3 : kindF (nmL e.kd.toNat) = e.kd.toNat := kindF_nm (by omega) (by omega)
  unfold readF
  rw [show_cut h]
  simp only
  rw [h2]
  simp only
  rw [h3, if_neg (by omega), num_nat (by omega)]
  have h4 := fill_words (partsK e.kd.toNat 32 32) (numC e) hi zeroC
  unfold evOf
  rw [h4, h4, h4, h4, h4]
  obtain ⟨kd, th, tx, pl, v, x, why⟩ := e
  obtain ⟨k, rfl⟩ : ∃ k : Nat, kd = k := ⟨kd.toNat, by simp only at hk; omega⟩
  simp only at hk ht
  unfold MayK at hm
  simp only at hm
  have : k = 1 ∨ k = 2 ∨ k = 3 ∨ k = 4 ∨ k = 5 ∨ k = 6 ∨ k = 7 ∨ k = 8 ∨ k = 9 ∨ k = 10 ∨ k = 11 ∨ k = 12 ∨ k = 13 := by omega
  rcases this with rfl | rfl | rfl | rfl | rfl | rfl | rfl | rfl | rfl | rfl | rfl | rfl | rfl <;>
    simp [partsK, numC, zeroC] <;> omega
theorem parse_show {e : Ev} (h : mayB e 6 32 32 = true) : parseF (showF e) = (e, 0) := by
  unfold parseF
  rw [read_show h, if_pos ⟨h, rfl⟩]
theorem show_inj {d e : Ev} (h1 : mayB d 6 32 32 = true) (h2 : mayB e 6 32 32 = true) (h : showF d = showF e) : d = e := by
  rw [← read_show h1, ← read_show h2, h]
theorem parse_cases (s : List UInt8) : (∃ e, mayB e 6 32 32 = true ∧ showF e = s ∧ parseF s = (e, 0)) ∨ ((∀ e, mayB e 6 32 32 = true → showF e ≠ s) ∧ parseF s = (ev0, 4)) := by
  by_cases h : mayB (readF s) 6 32 32 = true ∧ showF (readF s) = s
  · exact .inl ⟨readF s, h.1, h.2, by unfold parseF; rw [if_pos h]⟩
  · refine .inr ⟨fun e he hs => h ?_, by unfold parseF; rw [if_neg h]⟩
    subst hs
    rw [read_show he]
    exact ⟨he, rfl⟩
end Go.Proofs.YtkfcglgikemefaaDoor
