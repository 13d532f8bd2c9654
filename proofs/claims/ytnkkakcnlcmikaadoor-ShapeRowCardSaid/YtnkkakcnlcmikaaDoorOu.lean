/-
  PLAIN, FOR ShapeRow: what an event that may come tells of its thread's attempt: a Begin its number, Locks and Stores that rise, Stores within what is locked, Frees behind a store to each; how many commits are ended behind it. No program here.
-/
import Derived.Test.YtnkkakcnlcmikaaDoorOd
namespace Go.Proofs.YtnkkakcnlcmikaaDoor
set_option maxRecDepth 100000
set_option linter.unusedVariables false
set_option linter.unusedSimpArgs false
theorem lastL_at {l : List Int} (h : l ≠ []) : l[l.length - 1]? = some (lastL l) := by
  unfold lastL
  rw [← List.getLast?_eq_getElem?]
  cases hq : l.getLast? with
  | none => exact absurd (List.getLast?_eq_none_iff.1 hq) h
  | some x => rfl
theorem row_event {T V S : Int} {q : Sh} {e : Ev} (hI : Inv S T q) (hm : mayS T V S q e = true) :
    (e.kd = 1 → e.tx = q.com e.th) ∧
    (e.kd = 4 → lastL (q.att e.th).lk < e.pl) ∧
    (e.kd = 8 → lastL (q.att e.th).st < e.pl ∧ 0 ≤ e.pl ∧ e.pl % S ∈ (q.att e.th).lk) ∧
    (e.kd = 9 → (q.att e.th).lk ≠ [] ∧ (∀ s ∈ (q.att e.th).lk, ∃ x ∈ (q.att e.th).st, x % S = s) ∧ (∀ x ∈ (q.att e.th).st, 0 ≤ x)) ∧
    (stepS S q e).com = (if (e.kd = 7 ∧ e.v = 0) ∨ (e.kd = 9 ∧ lastL (q.att e.th).lk = e.pl) then updF q.com e.th (q.com e.th + 1) else q.com) ∧
    ((stepS S q e).att e.th).lk = (if e.kd = 1 then [] else if e.kd = 4 then (q.att e.th).lk ++ [e.pl] else (q.att e.th).lk) ∧
    ((stepS S q e).att e.th).st = (if e.kd = 1 then [] else if e.kd = 8 then (q.att e.th).st ++ [e.pl] else (q.att e.th).st) := by
  have hI2 := step_inv hI hm
  obtain ⟨hb, hq⟩ := may13 hm
  obtain ⟨hsz, hth, hk⟩ := (may_iff _ _ _ _).1 hb
  have hA := hI.t e.th hth.1
  have hA2 := hI2.t e.th hth.1
  have ha2 : (stepS S q e).att e.th = attF S (q.att e.th) e := updF_same _ _ _
  rw [ha2] at hA2 ⊢
  clear hI2 ha2 hm hb hsz
  unfold MayK at hk
  obtain ⟨kd, th, tx, pl, v, x, why⟩ := e
  simp only at hth hq hA hA2 hk ⊢
  generalize ha : q.att th = a at *
  refine ⟨fun h => ?_, fun h => ?_, fun h => ?_, fun h => ?_, ?_, ?_, ?_⟩
  · subst h
    simp [mayQ] at hq
    exact hq.2.2.1
  · subst h
    simp [mayQ] at hq
    exact hq.2.2.1
  · subst h
    simp [mayQ] at hq
    obtain ⟨j, _, hj⟩ := hA.held _ hq.2.2.2
    exact ⟨hq.2.2.1, by omega, List.mem_of_getElem? hj⟩
  · subst h
    rw [att_9] at hA2
    have h9 := hA2.w9 rfl
    exact ⟨h9.1, h9.2, hA2.spos⟩
  · simp only [stepS, ha]
    by_cases h7 : kd = 7
    · subst h7
      rw [att_7]
      simp [mayQ] at hq
      by_cases hv : v = 0
      · subst hv
        have hr := hq.2
        simp [readsA] at hr
        have hl := (hA.w0 (by omega)).1
        simp [overA, hl]
      · have hc := hq.2
        simp [hv, checksA] at hc
        have hl := (hA.w4 (by omega)).1
        simp [overA, hv, hl]
    · by_cases h9 : kd = 9
      · subst h9
        rw [att_9] at hA2 ⊢
        simp [mayQ] at hq
        have hfd := hq.2.2
        have hne : a.lk ≠ [] := (hA2.w9 rfl).1
        have hl := lastL_at hne
        have hpos : 0 < a.lk.length := List.length_pos_iff.2 hne
        by_cases hp : lastL a.lk = pl
        · have := inc_at hA.inc hfd (hp ▸ hl)
          have h1 : a.fd + 1 = a.lk.length := by omega
          simp [overA, hp, h1]
        · have h1 : ¬ a.fd + 1 = a.lk.length := fun h => hp (by
            have e1 : a.lk.length - 1 = a.fd := by omega
            rw [e1, hfd] at hl
            exact (Option.some.inj hl).symm)
          simp [overA, hp, h1]
      · simp [h7, h9]
  · simp only [attF]
    by_cases h1 : kd = 1
    · simp [h1]
    by_cases h4 : kd = 4
    · simp [h4]
    simp only [h1, h4, if_false]
    split <;> (try split) <;> (try split) <;> (try split) <;> (try split) <;> (try split) <;> rfl
  · simp only [attF]
    by_cases h1 : kd = 1
    · simp [h1]
    by_cases h8 : kd = 8
    · simp [h8]
    simp only [h1, h8, if_false]
    split <;> (try split) <;> (try split) <;> (try split) <;> (try split) <;> (try split) <;> rfl
theorem com_bound13 {T V S : Int} {l : List Ev} (h : Fine T V S l) (t : Int) (i : Nat) (hi : i ≤ l.length) : 0 ≤ (behind S (l.take i)).com t ∧ (behind S (l.take i)).com t ≤ i := by
  induction i with
  | zero => exact ⟨Int.le_refl _, Int.le_refl _⟩
  | succ i ih =>
    have hk : l[i]? = some l[i] := List.getElem?_eq_getElem (by omega)
    obtain ⟨_, _, _, _, hc, _, _⟩ := row_event (fine_inv h i (by omega)) (h i _ hk)
    rw [behind_next hk, hc]
    have := ih (by omega)
    split
    · by_cases ht : t = (l[i]).th
      · subst ht
        rw [updF_same]
        omega
      · rw [updF_other ht]
        omega
    · omega
end Go.Proofs.YtnkkakcnlcmikaaDoor
