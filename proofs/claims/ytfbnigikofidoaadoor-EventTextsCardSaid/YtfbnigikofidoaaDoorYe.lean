/-
  PLAIN, FOR EventTexts: a text's words, split at spaces, letter by letter; which words are numbers' texts. No program here.
-/
import Derived.Test.YtfbnigikofidoaaDoorWb
namespace Go.Proofs.YtfbnigikofidoaaDoor
set_option maxRecDepth 100000
set_option linter.unusedVariables false
open Go.Lib
/-- One letter more: the words that are over, and the one under way. -/
def spStep (q : List (List UInt8) × List UInt8) (c : UInt8) : List (List UInt8) × List UInt8 := if c = 32 then (q.1 ++ [q.2], []) else (q.1, q.2 ++ [c])
def spF (s : List UInt8) : List (List UInt8) × List UInt8 := s.foldl spStep ([], [])
def splitF (s : List UInt8) : List (List UInt8) := (spF s).1 ++ [(spF s).2]
theorem sp_word {w : List UInt8} (h : Word w) (q : List (List UInt8) × List UInt8) : w.foldl spStep q = (q.1, q.2 ++ w) := by
  induction w generalizing q with
  | nil => simp
  | cons c r ih =>
    rw [List.foldl_cons, ih (fun d hd => h d (by simp [hd]))]
    unfold spStep
    rw [if_neg (h c (by simp))]
    simp
theorem join_tail (w y : List UInt8) (r : List (List UInt8)) : join (w :: y :: r) [32] = w ++ 32 :: join (y :: r) [32] := by
  rw [join_cons, join_cons]
  simp [joinTail]
theorem sp_join (ws : List (List UInt8)) (w : List UInt8) (h : ∀ x ∈ w :: ws, Word x) (o : List (List UInt8)) :
    ((join (w :: ws) [32]).foldl spStep (o, [])).1 ++ [((join (w :: ws) [32]).foldl spStep (o, [])).2] = o ++ w :: ws := by
  induction ws generalizing w o with
  | nil =>
    rw [join_one, sp_word (h w (by simp))]
    simp
  | cons y r ih =>
    rw [join_tail, List.foldl_append, sp_word (h w (by simp)), List.foldl_cons]
    have e : spStep (o, [] ++ w) 32 = (o ++ [w], []) := by simp [spStep]
    rw [e, ih y (fun x hx => h x (List.mem_cons_of_mem _ hx)) (o ++ [w])]
    simp
theorem split_words {ws : List (List UInt8)} (h0 : ws ≠ []) (h : ∀ x ∈ ws, Word x) : splitF (join ws [32]) = ws := by
  cases ws with
  | nil => exact absurd rfl h0
  | cons w r =>
    have := sp_join r w h []
    rwa [List.nil_append] at this
/-- Where the splitting is: so many letters gone over, the word under way begins at a, these words are over. -/
structure SpAt (s : List UInt8) (i a : Nat) (o : List (List UInt8)) : Prop where
  done : spF (s.take i) = (o, (s.take i).drop a)
  le : a ≤ i
  few : o.length ≤ a
theorem SpAt.zero (s : List UInt8) : SpAt s 0 0 [] := ⟨by simp [spF], by omega, by simp⟩
theorem take_next {s : List UInt8} {i : Nat} {c : UInt8} (hc : s[i]? = some c) : s.take (i + 1) = s.take i ++ [c] := by rw [List.take_add_one, hc]; rfl
theorem SpAt.space {s : List UInt8} {i a : Nat} {o : List (List UInt8)} (h : SpAt s i a o) (hc : s[i]? = some 32) : SpAt s (i + 1) (i + 1) (o ++ [(s.take i).drop a]) := by
  have hi : i < s.length := (List.getElem?_eq_some_iff.1 hc).1
  refine ⟨?_, by omega, by have := h.few; have := h.le; simp; omega⟩
  rw [take_next hc, spF, List.foldl_append, ← spF, h.done]
  simp only [List.foldl_cons, List.foldl_nil, spStep, if_true]
  have e : (s.take i ++ [32]).drop (i + 1) = [] := List.drop_eq_nil_of_le (by simp; omega)
  rw [e]
theorem SpAt.letter {s : List UInt8} {i a : Nat} {o : List (List UInt8)} (h : SpAt s i a o) {c : UInt8} (hc : s[i]? = some c) (hn : c ≠ 32) : SpAt s (i + 1) a o := by
  have hi : i < s.length := (List.getElem?_eq_some_iff.1 hc).1
  have hl := h.le
  refine ⟨?_, by omega, h.few⟩
  rw [take_next hc, spF, List.foldl_append, ← spF, h.done]
  simp only [List.foldl_cons, List.foldl_nil, spStep, if_neg hn]
  rw [List.drop_append_of_le_length (by simp; omega)]
theorem SpAt.over {s : List UInt8} {a : Nat} {o : List (List UInt8)} (h : SpAt s s.length a o) : splitF s = o ++ [s.drop a] := by
  have := h.done
  rw [List.take_length] at this
  unfold splitF
  rw [this]
/- Numerals. -/
theorem valD_lt (l : List UInt8) (hd : Digs l) (acc : Nat) : valD acc l < (acc + 1) * 10 ^ l.length := by
  induction l generalizing acc with
  | nil => simp [valD]
  | cons c r ih =>
    have h2 : valD acc (c :: r) = valD (acc * 10 + (c.toNat - 48)) r := rfl
    have h3 := ih (fun d hd2 => hd d (by simp [hd2])) (acc * 10 + (c.toNat - 48))
    have h4 := hd c (by simp)
    rw [h2, List.length_cons, Nat.pow_succ, Nat.mul_comm (10 ^ r.length) 10, ← Nat.mul_assoc]
    exact Nat.lt_of_lt_of_le h3 (Nat.mul_le_mul_right _ (by omega))
theorem valD_next {t : List UInt8} {i : Nat} {c : UInt8} (hc : t[i]? = some c) : valD 0 (t.take (i + 1)) = valD 0 (t.take i) * 10 + (c.toNat - 48) := by
  rw [take_next hc, valD, List.foldl_append, ← valD]
  rfl
theorem decDigits_len (k u : Nat) (h : u < 10 ^ (k + 1)) : (decDigits u).length ≤ k + 1 := by
  induction k generalizing u with
  | zero =>
    rw [decDigits, dif_pos (by simpa using h)]
    simp
  | succ k ih =>
    rw [decDigits]
    split
    · simp
    · have := ih (u / 10) (by rw [Nat.pow_succ] at h; omega)
      simp
      omega
/-- A word's sign, and what is behind it. -/
def lowF (s : List UInt8) : Bool := s.head? == some 45
def numT (s : List UInt8) : List UInt8 := if lowF s then s.drop 1 else s
def i64R (n : Int) : Prop := -9223372036854775808 ≤ n ∧ n ≤ 9223372036854775807
theorem head_dec (u : Nat) : lowF (decDigits u) = false := by
  unfold lowF
  cases h : decDigits u with
  | nil => rfl
  | cons c r =>
    have := decDigits_digs u c (by rw [h]; simp)
    simp
    intro e
    rw [e] at this
    simp at this
theorem itoa_parts {n : Int} (h : i64R n) : lowF (itoa n) = decide (n < 0) ∧ numT (itoa n) = decDigits n.natAbs := by
  unfold itoa
  split
  · have e : lowF (45 :: decDigits n.natAbs) = true := rfl
    refine ⟨by rw [decide_eq_true (by assumption)]; exact e, ?_⟩
    unfold numT
    rw [e]
    rfl
  · have e := head_dec n.toNat
    refine ⟨by rw [decide_eq_false (by assumption), e], ?_⟩
    unfold numT
    rw [e, show n.natAbs = n.toNat by omega]
    rfl
/-- What is told of a word: a number, and whether the word is just its text. -/
structure NumOk (s : List UInt8) (x : Int) (b : Bool) : Prop where
  rng : i64R x
  is : b = true → itoa x = s
  all : ∀ n, i64R n → itoa n = s → x = n ∧ b = true
theorem NumOk.no {s : List UInt8} (h : ∀ n, i64R n → itoa n ≠ s) : NumOk s 0 false := ⟨by unfold i64R; omega, fun h => (by cases h), fun n hn e => absurd e (h n hn)⟩
theorem num_empty {s : List UInt8} (h : numT s = []) : NumOk s 0 false := .no fun n hn e => by
  have := (itoa_parts hn).2
  rw [e, h] at this
  exact decDigits_ne _ this.symm
theorem num_long {s : List UInt8} (h : 19 < (numT s).length) : NumOk s 0 false := .no fun n hn e => by
  have h2 := (itoa_parts hn).2
  rw [e] at h2
  rw [h2] at h
  have := decDigits_len 18 n.natAbs (by unfold i64R at hn; omega)
  omega
theorem num_letter {s : List UInt8} {c : UInt8} (h : c ∈ numT s) (hc : ¬ (48 ≤ c.toNat ∧ c.toNat ≤ 57)) : NumOk s 0 false := .no fun n hn e => by
  have h2 := (itoa_parts hn).2
  rw [e] at h2
  rw [h2] at h
  exact hc (decDigits_digs _ c h)
def w64 (n : Int) : Int := (n + 9223372036854775808) % 18446744073709551616 - 9223372036854775808
/-- The number that a word's letters make. -/
def numX (s : List UInt8) : Int := if lowF s then w64 (-(w64 (valD 0 (numT s)))) else w64 (valD 0 (numT s))
theorem num_end {s : List UInt8} : NumOk s (numX s) (itoa (numX s) == s) := by
  refine ⟨?_, fun h => by simpa using h, fun n hn e => ?_⟩
  · unfold numX i64R w64
    split <;> omega
  · have h2 := itoa_parts hn
    rw [e] at h2
    have h3 : numX s = n := by
      unfold numX
      rw [h2.2, decDigits_val, h2.1]
      unfold i64R at hn
      by_cases h : n < 0
      · rw [decide_eq_true h, if_pos rfl]
        unfold w64
        omega
      · rw [decide_eq_false h, if_neg (by decide)]
        unfold w64
        omega
    exact ⟨h3, by rw [h3]; simpa using e⟩
end Go.Proofs.YtfbnigikofidoaaDoor
