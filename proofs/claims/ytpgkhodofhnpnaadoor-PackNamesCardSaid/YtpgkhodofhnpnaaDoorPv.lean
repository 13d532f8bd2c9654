/-
  LAYER 7, PLAIN: whether a setup may be, of what is kept of it; what may be may be written. No condition.
-/
import Derived.Test.YtpgkhodofhnpnaaDoorPn
import Derived.Test.YtpgkhodofhnpnaaDoorPu
import Derived.Test.YtpgkhodofhnpnaaDoorZc
namespace Go.Proofs.YtpgkhodofhnpnaaDoor
set_option maxRecDepth 100000
open Go.RowKit
set_option linter.unusedVariables false
theorem may_len {d : Nat} {tx : List St} {n : Int} (h : mayF d tx n = true) : lenL d tx ≤ 40 := by
  unfold mayF soundF at h
  simp only [Bool.and_eq_true] at h
  have := of_decide_eq_true h.2.2.1.1
  rw [flat_len] at this
  exact this
theorem cut_may {x y : List St} (h : CutT x y) (n : Int) : mayF 14 x n = mayF 14 y n := by
  obtain ⟨n', h1, h2, h3⟩ := h
  by_cases hn : n' ≤ 41
  · rw [h2 hn]
  · have h4 := h3 (by omega) (by omega)
    have e1 : mayF 14 x n = false := by
      cases hm : mayF 14 x n with
      | false => rfl
      | true => have := may_len hm; omega
    have e2 : mayF 14 y n = false := by
      cases hm : mayF 14 y n with
      | false => rfl
      | true => have := may_len hm; omega
    rw [e1, e2]
theorem cut_same {x y : List St} (h : CutT x y) {n : Int} (hm : mayF 14 x n = true) : x = y := by
  obtain ⟨n', h1, h2, h3⟩ := h
  have := may_len hm
  by_cases hn : n' ≤ 41
  · exact h2 hn
  · have := h3 (by omega) (by omega)
    omega
theorem All2.tail {α β : Type} {R : α → β → Prop} {x : α} {y : β} {l : List α} {m : List β} (h : All2 R (x :: l) (y :: m)) : R x y ∧ All2 R l m :=
  ⟨h.2 0 (by simp) (by simp), by simpa using h.1, fun j h1 h2 => h.2 (j + 1) (by simp; omega) (by simp; omega)⟩
theorem txs_same : ∀ (l m : List (List St)) (k : Nat), All2 CutT l m → txsF 14 l k = txsF 14 m k ∧ (txsF 14 l k = true → l = m) := by
  intro l
  induction l with
  | nil =>
    intro m k h
    obtain rfl : m = [] := List.eq_nil_of_length_eq_zero h.1.symm
    exact ⟨rfl, fun _ => rfl⟩
  | cons x l ih =>
    intro m k h
    match m, h with
    | [], h => exact absurd h.1 (by simp)
    | y :: m, h =>
      obtain ⟨h1, h2⟩ := h.tail
      obtain ⟨i1, i2⟩ := ih m (k + 1) h2
      rw [txsF, txsF, cut_may h1 k, i1]
      refine ⟨rfl, fun ht => ?_⟩
      rw [Bool.and_eq_true, ← cut_may h1 k] at ht
      rw [cut_same h1 ht.1, i2 (by rw [i1]; exact ht.2)]
theorem thr_same : ∀ (l m : List (List (List St))), All2 (All2 CutT) l m → thrF 14 l = thrF 14 m ∧ (thrF 14 l = true → l = m) := by
  intro l
  induction l with
  | nil =>
    intro m h
    obtain rfl : m = [] := List.eq_nil_of_length_eq_zero h.1.symm
    exact ⟨rfl, fun _ => rfl⟩
  | cons x l ih =>
    intro m h
    match m, h with
    | [], h => exact absurd h.1 (by simp)
    | y :: m, h =>
      obtain ⟨h1, h2⟩ := h.tail
      obtain ⟨i1, i2⟩ := ih m h2
      obtain ⟨t1, t2⟩ := txs_same x y 0 h1
      rw [thrF, thrF, h1.1, t1, i1]
      refine ⟨rfl, fun ht => ?_⟩
      simp only [Bool.and_eq_true] at ht
      rw [t2 (by rw [t1]; exact ht.2.1), i2 (by rw [i1]; exact ht.2.2)]
theorem su_same {x y : Su} (h : SuCut x y) : okF 14 x = okF 14 y ∧ (okF 14 x = true → x = y) := by
  obtain ⟨st, cl, tr, ini, thr⟩ := x
  obtain ⟨st', cl', tr', ini', thr'⟩ := y
  obtain ⟨h1, h2, h3, h4, h5⟩ := h
  dsimp only at h1 h2 h3 h4 h5
  subst h1 h2 h3 h4
  obtain ⟨t1, t2⟩ := thr_same thr thr' h5
  unfold okF
  dsimp only
  rw [h5.1, t1]
  refine ⟨rfl, fun ht => ?_⟩
  simp only [Bool.and_eq_true] at ht
  rw [t2 (by rw [t1]; exact ht.2.2)]
/-! ### What may be may be written -/
theorem none_of {e : Ex} {m : Int} {d : Nat} (hn : (!noneE e) = true) (hm : mayE d e m = true) : wholeF 6 e = true := by
  unfold mayE at hm
  rw [Bool.not_eq_true'] at hn
  rw [hn, Bool.false_or, Bool.and_eq_true] at hm
  exact hm.1
theorem lt_of {d : Nat} {x : St} {n : Int} (h : shapedF d x n = true) : LT x := by
  have hm := shaped_may h
  unfold shapedF at h
  split at h
  · cases h
  · next hk =>
    simp only [Bool.and_eq_true] at h
    obtain ⟨h1, h2, h3, _⟩ := h
    unfold hasF at h1
    simp only [Bool.and_eq_true] at h1
    obtain ⟨_, ha, hb, _⟩ := h1
    have ko : x.kind = 1 ∨ x.kind = 2 ∨ x.kind = 3 ∨ x.kind = 4 ∨ x.kind = 5 ∨ x.kind = 6 ∨ x.kind = 7 ∨ x.kind = 8 := by omega
    refine ⟨by omega, by omega, of_decide_eq_true h2, of_decide_eq_true h3, fun hc => ?_, fun hc => ?_⟩
    · refine none_of ?_ hm.1
      rcases ko with k | k | k | k | k | k | k | k <;> rw [k] at hc ha <;> first | simpa [ask] using ha | exact absurd hc (by decide)
    · refine none_of ?_ hm.2
      rcases ko with k | k | k | k | k | k | k | k <;> rw [k] at hc hb <;> first | simpa [ask] using hb | exact absurd hc (by decide)
theorem gs_of {e : Nat} {n : Int} : ∀ (D deep : Nat) (x : St), deep ≤ 7 → 8 ≤ D + deep → (∀ z ∈ flatS D deep x, okEach e n z = true) → GS (7 - deep) x := by
  intro D
  induction D with
  | zero => intro deep x h1 h2; omega
  | succ D ih =>
    intro deep x h1 h2 h
    obtain ⟨k, t, a, b, y, el⟩ := x
    rw [flatS] at h
    have h0 := h (deep, .node k t a b y el) (List.mem_cons_self ..)
    unfold okEach at h0
    rw [Bool.and_eq_true] at h0
    have hd : deep ≤ 6 := of_decide_eq_true h0.1
    obtain ⟨q, hq⟩ : ∃ q, 7 - deep = q + 1 := ⟨6 - deep, by omega⟩
    rw [hq]
    have hq' : 7 - (deep + 1) = q := by omega
    refine ⟨lt_of h0.2, fun u hu => ?_, fun u hu => ?_⟩
    · have := ih (deep + 1) u (by omega) (by omega) (fun z hz => h z (List.mem_cons_of_mem _ (List.mem_append_left _ (List.mem_flatMap.2 ⟨u, hu, hz⟩))))
      rwa [hq'] at this
    · have := ih (deep + 1) u (by omega) (by omega) (fun z hz => h z (List.mem_cons_of_mem _ (List.mem_append_right _ (List.mem_flatMap.2 ⟨u, hu, hz⟩))))
      rwa [hq'] at this
theorem tx_gs {d : Nat} (hd : 7 ≤ d) {tx : List St} {n : Int} (h : mayF d tx n = true) : ∀ u ∈ tx, GS 6 u := by
  intro u hu
  unfold mayF soundF at h
  simp only [Bool.and_eq_true] at h
  have ha := List.all_eq_true.1 h.2.2.1.2.1
  exact gs_of d 1 u (by omega) (by omega) fun z hz => ha z (List.mem_flatMap.2 ⟨u, hu, hz⟩)
theorem txs_gs {d : Nat} (hd : 7 ≤ d) : ∀ (l : List (List St)) (k : Nat), txsF d l k = true → ∀ tx ∈ l, ∀ u ∈ tx, GS 6 u := by
  intro l
  induction l with
  | nil => intro k h tx ht; cases ht
  | cons x l ih =>
    intro k h tx ht
    rw [txsF, Bool.and_eq_true] at h
    rcases List.mem_cons.1 ht with rfl | ht
    · exact tx_gs hd h.1
    · exact ih (k + 1) h.2 tx ht
theorem thr_gs {d : Nat} (hd : 7 ≤ d) : ∀ (l : List (List (List St))), thrF d l = true → ∀ th ∈ l, ∀ tx ∈ th, ∀ u ∈ tx, GS 6 u := by
  intro l
  induction l with
  | nil => intro h tx ht; cases ht
  | cons x l ih =>
    intro h th ht
    rw [thrF] at h
    simp only [Bool.and_eq_true] at h
    rcases List.mem_cons.1 ht with rfl | ht
    · exact txs_gs hd _ 0 h.2.1
    · exact ih h.2.2 th ht
theorem su_gs {d : Nat} (hd : 7 ≤ d) {x : Su} (h : okF d x = true) : (0 ≤ x.st ∧ 0 ≤ x.cl ∧ 0 ≤ x.tr) ∧ ∀ th ∈ x.thr, ∀ tx ∈ th, ∀ u ∈ tx, GS 6 u := by
  unfold okF at h
  simp only [Bool.and_eq_true] at h
  refine ⟨?_, thr_gs hd x.thr h.2.2⟩
  have h1 := h.1
  unfold numF inF at h1
  simp only [Bool.and_eq_true, decide_eq_true_eq] at h1
  omega
end Go.Proofs.YtpgkhodofhnpnaaDoor
