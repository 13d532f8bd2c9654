/-
  CONTRACT OF seesawref10's Add (layer 10 by its words). Conditions: as they stand. (UNDER WAY: the insertion's region.)
-/
import Derived.Test.YtmjaphcofimbeaaGk
namespace Go.Proofs.Ytmjaphcofimbeaa
set_option maxRecDepth 100000
open Go.RowKit Go.Deep
set_option linter.unusedVariables false
/-- A number more in a rising list. -/
def insF (L : List Int) (n : Int) : List Int := L.takeWhile (fun x => decide (x < n)) ++ n :: L.dropWhile (fun x => decide (x < n))
theorem insF_at (L : List Int) (n : Int) (k : Nat) (hk : k ≤ L.length) (h1 : ∀ x ∈ L.take k, x < n) (h2 : ∀ h : k < L.length, ¬ L[k] < n) : insF L n = L.take k ++ n :: L.drop k := by
  unfold insF
  have e1 : L.takeWhile (fun x => decide (x < n)) = L.take k := by
    conv => lhs; rw [← List.take_append_drop k L]
    rw [List.takeWhile_append_of_pos (fun x hx => decide_eq_true (h1 x hx))]
    cases hd : L.drop k with
    | nil => simp
    | cons y r =>
      have hlt : k < L.length := by
        rcases Nat.lt_or_ge k L.length with h | h
        · exact h
        · rw [List.drop_eq_nil_of_le h] at hd; cases hd
      have hy : y = L[k] := by
        rw [List.drop_eq_getElem_cons hlt] at hd
        exact (List.cons.inj hd).1.symm
      rw [List.takeWhile_cons_of_neg (by rw [hy]; simp; have := h2 hlt; omega)]
      simp
  have e2 : L.dropWhile (fun x => decide (x < n)) = L.drop k := by
    conv => lhs; rw [← List.take_append_drop k L]
    rw [List.dropWhile_append_of_pos (fun x hx => decide_eq_true (h1 x hx))]
    cases hd : L.drop k with
    | nil => simp
    | cons y r =>
      have hlt : k < L.length := by
        rcases Nat.lt_or_ge k L.length with h | h
        · exact h
        · rw [List.drop_eq_nil_of_le h] at hd; cases hd
      have hy : y = L[k] := by
        rw [List.drop_eq_getElem_cons hlt] at hd
        exact (List.cons.inj hd).1.symm
      rw [List.dropWhile_cons_of_neg (by rw [hy]; simp; have := h2 hlt; omega)]
  rw [e1, e2]
theorem radd_no {w : World} {g lo : Nat} {V st : Int} {L : List Int} (h : RefAt w g lo V st L) (n : Int) (hn : ¬ (0 ≤ n ∧ n < st)) : Calls Try.prog 10 #[.pointer (some ⟨g, 0, none⟩), .int .i64 n] w fun e w' => e = .returned (.int .i64 1) ∧ w = w' := by
  obtain ⟨A, c, hr, hI, _⟩ := h.ex
  have c1 : w.cell? ⟨g, 1, none⟩ = some (.int .i64 st) := by simp [World.cell?, hr]
  clear h hr hI
  by_cases h1 : n < 0
  · go_enter Try.func10, Try.ntmps10
    go_wp2_with fail
    go_ret
    exact ⟨rfl, rfl⟩
  · have h2 : st ≤ n := by omega
    clear hn
    go_enter Try.func10, Try.ntmps10
    go_wp2_with fail
    go_ret
    exact ⟨rfl, rfl⟩
theorem radd_has {w : World} {g lo : Nat} {V st : Int} {L : List Int} (h : RefAt w g lo V st L) (n : Int) (hn : 0 ≤ n ∧ n < st) (hm : n ∈ L) : Calls Try.prog 10 #[.pointer (some ⟨g, 0, none⟩), .int .i64 n] w fun e w' => e = .returned (.int .i64 0) ∧ w = w' := by
  have HH := rhas_any h n
  rw [decide_eq_true hm] at HH
  have HH := Lib.hid HH
  obtain ⟨A, c, hr, hI, _⟩ := h.ex
  have c1 : w.cell? ⟨g, 1, none⟩ = some (.int .i64 st) := by simp [World.cell?, hr]
  have h1 : ¬ n < 0 := by omega
  have h2 : ¬ st ≤ n := by omega
  clear h hr hI hm hn
  go_enter Try.func10, Try.ntmps10
  go_wp2_with fail
  refine HH.out.mono ?_
  rintro e w' ⟨rfl, rfl⟩
  go_wp2_with fail
  go_ret
  exact ⟨rfl, rfl⟩
/-- Those behind n, of the first k. -/
def tailK (f : Nat → Bool) (n k : Nat) : List Nat := (List.range k).filter fun j => f j && decide (n < j)
theorem tailK_succ (f : Nat → Bool) (n k : Nat) : tailK f n (k + 1) = tailK f n k ++ (if f k && decide (n < k) then [k] else []) := by
  unfold tailK
  rw [List.range_succ, List.filter_append]
  congr 1
  by_cases h : (f k && decide (n < k)) = true
  · rw [if_pos h]; simp only [List.filter_cons, h, if_true, List.filter_nil]
  · rw [if_neg h]; simp only [List.filter_cons, h, List.filter_nil]; simp
theorem riseK_split {f : Nat → Bool} {n : Nat} (hf : f n = false) : ∀ k, n < k → riseK f k = riseK f n ++ tailK f n k := by
  intro k
  induction k with
  | zero => intro h; omega
  | succ k ih =>
    intro h
    rw [tailK_succ]
    by_cases hk : n < k
    · rw [decide_eq_true hk, Bool.and_true]
      cases hfk : f k
      · rw [riseK_no hfk, ih hk]; simp
      · rw [riseK_yes hfk, ih hk]; simp
    · obtain rfl : n = k := by omega
      have : tailK f n n = [] := by
        unfold tailK
        rw [List.filter_eq_nil_iff]
        intro j hj
        have := List.mem_range.1 hj
        simp
        intro _
        omega
      rw [riseK_no hf, this]
      simp
theorem riseK_upd {f : Nat → Bool} {n : Nat} : ∀ k, n < k → riseK (upd f n) k = riseK f n ++ n :: tailK f n k := by
  intro k
  induction k with
  | zero => intro h; omega
  | succ k ih =>
    intro h
    rw [tailK_succ]
    by_cases hk : n < k
    · have hu : upd f n k = f k := by
        unfold upd
        rw [beq_eq_false_iff_ne.2 (by omega), Bool.false_or]
      rw [decide_eq_true hk, Bool.and_true]
      cases hfk : f k
      · rw [riseK_no (hu.trans hfk), ih hk]; simp
      · rw [riseK_yes (hu.trans hfk), ih hk]; simp
    · obtain rfl : n = k := by omega
      have h1 : riseK (upd f n) n = riseK f n := by
        unfold riseK
        refine List.filter_congr fun j hj => ?_
        have := List.mem_range.1 hj
        unfold upd
        rw [beq_eq_false_iff_ne.2 (by omega), Bool.false_or]
      have h2 : tailK f n n = [] := by
        unfold tailK
        rw [List.filter_eq_nil_iff]
        intro j hj
        have := List.mem_range.1 hj
        simp
        intro _
        omega
      rw [riseK_yes (by unfold upd; simp), h1, h2]
      simp
theorem upd_same {f : Nat → Bool} {n : Nat} (h : f n = true) : upd f n = f := by
  funext j
  unfold upd
  by_cases e : j = n
  · rw [e, h]; simp
  · rw [beq_eq_false_iff_ne.2 e, Bool.false_or]
/-- A stripe more is a number more in the rising list. -/
theorem readF_upd {f : Nat → Bool} {n : Nat} {st : Int} (hn : (n : Int) < st) (hf : f n = false) : readF (upd f n) st = insF (readF f st) n := by
  have hk : n < st.toNat := by omega
  unfold readF
  rw [riseK_upd _ hk, riseK_split hf _ hk]
  have e1 : natsI (riseK f n ++ tailK f n st.toNat) = natsI (riseK f n) ++ natsI (tailK f n st.toNat) := by simp [natsI]
  have e2 : natsI (riseK f n ++ n :: tailK f n st.toNat) = natsI (riseK f n) ++ (n : Int) :: natsI (tailK f n st.toNat) := by simp [natsI]
  have e3 : (natsI (riseK f n)).length = (riseK f n).length := by simp [natsI]
  rw [e1, e2, insF_at _ _ (natsI (riseK f n)).length (by simp) ?_ ?_]
  · simp
  · intro x hx
    rw [List.take_left'] at hx
    · simp only [natsI, List.mem_map, riseK, List.mem_filter, List.mem_range] at hx
      obtain ⟨j, ⟨hj, _⟩, rfl⟩ := hx
      omega
    · rfl
  · intro h
    rw [List.getElem_append_right (Nat.le_refl _)]
    have hm : (natsI (tailK f n st.toNat))[(natsI (riseK f n)).length - (natsI (riseK f n)).length]'(by simp at h ⊢; omega) ∈ natsI (tailK f n st.toNat) := List.getElem_mem _
    simp only [natsI, List.mem_map, tailK, List.mem_filter] at hm
    obtain ⟨j, ⟨_, hj⟩, e⟩ := hm
    simp only [Bool.and_eq_true, decide_eq_true_eq] at hj
    have e' : (natsI (tailK f n st.toNat))[(natsI (riseK f n)).length - (natsI (riseK f n)).length]'(by simp at h ⊢; omega) = (j : Int) := e.symm
    rw [e']
    omega
theorem mem_readF {f : Nat → Bool} {n : Nat} {st : Int} (hn : (n : Int) < st) : (n : Int) ∈ readF f st ↔ f n = true := by
  simp only [readF, natsI, List.mem_map, riseK, List.mem_filter, List.mem_range]
  constructor
  · rintro ⟨j, ⟨_, hj⟩, e⟩
    obtain rfl : j = n := by omega
    exact hj
  · intro h
    exact ⟨n, ⟨by omega, h⟩, rfl⟩
end Go.Proofs.Ytmjaphcofimbeaa
