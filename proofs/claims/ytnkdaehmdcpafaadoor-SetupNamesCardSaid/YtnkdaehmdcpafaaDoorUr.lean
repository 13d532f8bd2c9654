/-
  WORDS FOR SetupLess (P6.6): what is less may be, and costs no more. No condition.
-/
import Derived.Test.YtnkdaehmdcpafaaDoorUf
import Derived.Test.YtnkdaehmdcpafaaDoorUq
namespace Go.Proofs.YtnkdaehmdcpafaaDoor
open Go.RowKit
set_option linter.unusedVariables false
theorem thrF_iff {d : Nat} {T : List (List (List St))} : thrF d T = true ↔ ∀ l ∈ T, l.length ≤ 6 ∧ txsF d l 0 = true := by
  induction T with
  | nil => simp [thrF]
  | cons x r ih =>
    rw [thrF, Bool.and_eq_true, Bool.and_eq_true, ih, decide_eq_true_eq]
    simp only [List.mem_cons, forall_eq_or_imp]
    constructor
    · rintro ⟨h1, h2, h3⟩
      exact ⟨⟨h1, h2⟩, h3⟩
    · rintro ⟨⟨h1, h2⟩, h3⟩
      exact ⟨h1, h2, h3⟩
theorem txsF_take {d : Nat} : ∀ (l : List (List St)) (n m : Nat), txsF d l n = true → txsF d (l.take m) n = true := by
  intro l
  induction l with
  | nil => intro n m h; simp [txsF]
  | cons x r ih =>
    intro n m h
    cases m with
    | zero => rfl
    | succ m =>
      rw [txsF, Bool.and_eq_true] at h
      rw [List.take_succ_cons, txsF, h.1, ih _ _ h.2]
      rfl
theorem costT_take {d : Nat} (l : List (List St)) (m : Nat) : costT d (l.take m) ≤ costT d l :=
  mostL_le _ _ _ _ (Nat.zero_le _) fun x hx => mostL_mem _ _ _ _ (List.mem_of_mem_take hx)
theorem costA_take {d : Nat} (T : List (List (List St))) (m : Nat) : costA d (T.take m) ≤ costA d T :=
  mostL_le _ _ _ _ (Nat.zero_le _) fun x hx => mostL_mem _ _ _ _ (List.mem_of_mem_take hx)
theorem costA_set {d : Nat} (T : List (List (List St))) (k m : Nat) (h : k < T.length) : costA d (T.set k (T[k].take m)) ≤ costA d T :=
  mostL_le _ _ _ _ (Nat.zero_le _) fun x hx => by
    rcases List.mem_or_eq_of_mem_set hx with h1 | h1
    · exact mostL_mem _ _ _ _ h1
    · rw [h1]
      exact Nat.le_trans (costT_take _ _) (mostL_mem _ _ _ _ (List.getElem_mem h))
theorem thrF_takeT {d : Nat} {T : List (List (List St))} (h : thrF d T = true) (m : Nat) : thrF d (T.take m) = true :=
  thrF_iff.2 fun l hl => thrF_iff.1 h l (List.mem_of_mem_take hl)
theorem thrF_set {d : Nat} {T : List (List (List St))} (h : thrF d T = true) (k m : Nat) (hk : k < T.length) : thrF d (T.set k (T[k].take m)) = true :=
  thrF_iff.2 fun l hl => by
    rcases List.mem_or_eq_of_mem_set hl with h1 | h1
    · exact thrF_iff.1 h l h1
    · obtain ⟨h2, h3⟩ := thrF_iff.1 h _ (List.getElem_mem hk)
      rw [h1]
      exact ⟨by simp; omega, txsF_take _ _ _ h3⟩
theorem okF_parts {d : Nat} {s : Su} (h : okF d s = true) : numF s.st s.cl s.tr s.init.length = true ∧ s.thr.length ≤ 6 ∧ thrF d s.thr = true ∧ 1 ≤ s.st ∧ s.st ≤ s.init.length := by
  unfold okF at h
  simp only [Bool.and_eq_true, decide_eq_true_eq] at h
  obtain ⟨h1, h2, h3⟩ := h
  have h4 := h1
  simp only [numF, inF, Bool.and_eq_true, decide_eq_true_eq] at h4
  exact ⟨h1, h2, h3, h4.2.1.1, h4.2.1.2⟩
theorem okF_st {d : Nat} {s : Su} {x : Int} (h : okF d s = true) (h1 : 1 ≤ x) (h2 : x ≤ s.st) : okF d { s with st := x } = true := by
  obtain ⟨h3, h4, h5, h6, h7⟩ := okF_parts h
  have h8 := h3
  simp only [numF, inF, Bool.and_eq_true, decide_eq_true_eq] at h8
  unfold okF
  simp only [numF, inF, Bool.and_eq_true, decide_eq_true_eq]
  exact ⟨⟨h8.1, ⟨h1, by omega⟩, h8.2.2⟩, h4, h5⟩
theorem okF_thr {d : Nat} {s : Su} {T : List (List (List St))} (h : okF d s = true) (h1 : T.length ≤ s.thr.length) (h2 : thrF d T = true) : okF d { s with thr := T } = true := by
  obtain ⟨h3, h4, h5, h6, h7⟩ := okF_parts h
  unfold okF
  rw [h3, h2, decide_eq_true (by dsimp only; omega)]
  rfl
/-- A number without sign, modulo another one. -/
def modU (y n : Int) : Int := (y % 18446744073709551616) % n
theorem modU_wrap (y n : Int) (h1 : 1 ≤ n) (h2 : n < 9223372036854775808) : wrap64 ((IntKind.u64.wrap y).tmod (IntKind.u64.wrap n)) = modU y n ∧ 0 ≤ modU y n ∧ modU y n < n := by
  have e1 : IntKind.u64.wrap n = n := IntWalk.u64_in n ⟨by omega, by omega⟩
  have e2 : IntKind.u64.wrap y = y % 18446744073709551616 := by simp [IntKind.wrap, IntKind.bits, IntKind.signed]
  have h3 : 0 ≤ modU y n := Int.emod_nonneg _ (by omega)
  have h4 : modU y n < n := Int.emod_lt_of_pos _ (by omega)
  refine ⟨?_, h3, h4⟩
  rw [e1, e2, Int.tmod_eq_emod_of_nonneg (Int.emod_nonneg _ (by omega))]
  show wrap64 (modU y n) = modU y n
  unfold wrap64
  omega
theorem modU_nz (n : Int) (h1 : 1 ≤ n) (h2 : n < 9223372036854775808) : IntKind.u64.wrap n ≠ 0 := by
  rw [IntWalk.u64_in n ⟨by omega, by omega⟩]
  omega
theorem SuW.suAt {w : World} {lo mid d : Nat} {I T : Option Addr} {s s' : Su} {a : Nat → Nat} (h : SuW w lo mid d I T s a) (h1 : s'.init = s.init) (h2 : s'.thr = s.thr) (hl : s.thr.length ≤ 20) (q0 : -9223372036854775808 ≤ s'.st) (q1 : s'.st < 9223372036854775808) (q2 : -9223372036854775808 ≤ s'.cl) (q3 : s'.cl < 9223372036854775808) (q4 : -9223372036854775808 ≤ s'.tr) (q5 : s'.tr < 9223372036854775808) : SuAt w lo w.heap.size d I T s' :=
  ⟨by rw [h1]; exact ⟨h.ini.len, fun k hk => by
      obtain ⟨p, e, b, c⟩ := h.ini.cell k hk
      exact ⟨p, e, Nat.lt_of_lt_of_le b h.ms, c⟩⟩, by rw [h2]; exact h.at, by rw [h2]; omega, q0, q1, q2, q3, q4, q5⟩
theorem Thr.take {w : World} {lo hi d : Nat} {A : Option Addr} {T : List (List (List St))} (h : Thr w lo hi d A T) (m : Nat) : Thr w lo hi d A (T.take m) := fun j hj => by
  have hj' : j < T.length := by simp at hj; omega
  have := h j hj'
  rw [List.getElem_take]
  exact this
/-- The greater of nothing and one less. -/
theorem max_less (L : Nat) : (if (0 : Int) < (L : Int) - 1 then (L : Int) - 1 else 0) = ((L - 1 : Nat) : Int) := by
  split <;> omega
end Go.Proofs.YtnkdaehmdcpafaaDoor
