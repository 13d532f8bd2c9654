/-
  PLAIN, FOR ShapeRow: what an event that may come tells of its thread's attempt: a Begin its number, Locks and Stores that rise, Stores within what is locked, Frees behind a store to each; how many commits are ended behind it. No program here.
-/
import Derived.Test.YtjennlkindbpoaaDoorOd
namespace Go.Proofs.YtjennlkindbpoaaDoor
set_option maxRecDepth 100000
set_option linter.unusedVariables false
set_option linter.unusedSimpArgs false
theorem lastL_at {l : List Int} (h : l ≠ []) : l[l.length - 1]? = some (lastL l) := by
  unfold lastL
  rw [← List.getLast?_eq_getElem?]
  cases hq : l.getLast? with
  | none => exact absurd (List.getLast?_eq_none_iff.1 hq) h
  | some x => rfl
theorem row_event {T V S : Int} {q : Sh} {e : Ev} (hI : Inv S T q) (hm : mayS T V S q e = true) :
    (e.kd = 1 → e.tx = q.com e.th) ∧
    (e.kd = 4 → lastL (q.att e.th).lk < e.pl) ∧
    (e.kd = 8 → lastL (q.att e.th).st < e.pl ∧ 0 ≤ e.pl ∧ e.pl % S ∈ (q.att e.th).lk) ∧
    (e.kd = 9 → (q.att e.th).lk ≠ [] ∧ (∀ s ∈ (q.att e.th).lk, ∃ x ∈ (q.att e.th).st, x % S = s) ∧ (∀ x ∈ (q.att e.th).st, 0 ≤ x)) ∧
    (stepS S q e).com = (if (e.kd = 7 ∧ e.v = 0) ∨ (e.kd = 9 ∧ lastL (q.att e.th).lk = e.pl) then updF q.com e.th (q.com e.th + 1) else q.com) ∧
    ((stepS S q e).att e.th).lk = (if e.kd = 1 then [] else if e.kd = 4 then (q.att e.th).lk ++ [e.pl] else (q.att e.th).lk) ∧
    ((stepS S q e).att e.th).st = (if e.kd = 1 then [] else if e.kd = 8 then (q.att e.th).st ++ [e.pl] else (q.att e.th).st) := by
  have hI2 := step_inv hI hm
  obtain ⟨hb, hq⟩ := may13 hm
  obtain ⟨hsz, hth, hk⟩ := (may_iff _ _ _ _).1 hb
  have hA := hI.t e.th hth.1
  have hA2 := hI2.t e.th hth.1
  have ha2 : (stepS S q e).att e.th = attF S (q.att e.th) e := updF_same _ _ _
  rw [ha2] at hA2 ⊢
  clear hI2 ha2 hm hb hsz
  unfold MayK at hk
  obtain ⟨kd, th, tx, pl, v, x, why⟩ := e
  simp only at hth hq hA hA2 hk ⊢
  generalize ha : q.att th = a at *
  refine ⟨fun h => ?_, fun h => ?_, fun h => ?_, fun h => ?_, ?_, ?_, ?_⟩
  · subst h
    simp [mayQ] at hq
    exact hq.2.2.1
  · subst h
    simp [mayQ] at hq
    exact hq.2.2.1
  · subst h
    simp [mayQ] at hq
    obtain ⟨j, _, hj⟩ := hA.held _ hq.2.2.2
    exact ⟨hq.2.2.1, by omega, List.mem_of_getElem? hj⟩
  · subst h
    rw [att_9] at hA2
    have h9 := hA2.w9 rfl
    exact ⟨h9.1, h9.2, hA2.spos⟩
  · simp only [stepS, ha]
    by_cases h7 : kd = 7
    · subst h7
      rw [att_7]
      simp [mayQ] at hq
      by_cases hv : v = 0
      · subst hv
        have hr := hq.2
        simp [readsA] at hr
        have hl := (hA.w0 (by omega)).1
        simp [overA, hl]
      · have hc := hq.2
        simp [hv, checksA] at hc
        have hl := (hA.w4 (by omega)).1
        simp [overA, hv, hl]
    · by_cases h9 : kd = 9
      · subst h9
        rw [att_9] at hA2 ⊢
        simp [mayQ] at hq
        have hfd := hq.2.2
        have hne : a.lk ≠ [] := (hA2.w9 rfl).1
        have hl := lastL_at hne
        have hpos : 0 < a.lk.length := List.length_pos_iff.2 hne
        by_cases hp : lastL a.lk = pl
        · have := inc_at hA.inc hfd (hp ▸ hl)
          have h1 : a.fd + 1 = a.lk.length := by omega
          simp [overA, hp, h1]
        · have h1 : ¬ a.fd + 1 = a.lk.length := fun h => hp (by
            have e1 : a.lk.length - 1 = a.fd := by omega
            rw [e1, hfd] at hl
            exact (Option.some.inj hl).symm)
          simp [overA, hp, h1]
      · simp [h7, h9]
  · simp only [attF]
    by_cases h1 : kd = 1
    · simp [h1]
    by_cases h4 : kd = 4
    · simp [h4]
    simp only [h1, h4, if_false]
    split <;> (try split) <;> (try split) <;> (try split) <;> (try split) <;> (try split) <;> rfl
  · simp only [attF]
    by_cases h1 : kd = 1
    · simp [h1]
    by_cases h8 : kd = 8
    · simp [h8]
    simp only [h1, h8, if_false]
    split <;> (try split) <;> (try split) <;> (try split) <;> (try split) <;> (try split) <;> rfl
theorem com_bound13 {T V S : Int} {l : List Ev} (h : Fine T V S l) (t : Int) (i : Nat) (hi : i ≤ l.length) : 0 ≤ (behind S (l.take i)).com t ∧ (behind S (l.take i)).com t ≤ i := by
  induction i with
  | zero => exact ⟨Int.le_refl _, Int.le_refl _⟩
  | succ i ih =>
    have hk : l[i]? = some l[i] := List.getElem?_eq_getElem (by omega)
    obtain ⟨_, _, _, _, hc, _, _⟩ := row_event (fine_inv h i (by omega)) (h i _ hk)
    rw [behind_next hk, hc]
    have := ih (by omega)
    split
    · by_cases ht : t = (l[i]).th
      · subst ht
        rw [updF_same]
        omega
      · rw [updF_other ht]
        omega
    · omega
end Go.Proofs.YtjennlkindbpoaaDoor
namespace Go.Proofs.YtjennlkindbpoaaDoor
set_option maxRecDepth 100000
set_option linter.unusedVariables false
set_option linter.unusedSimpArgs false
structure Sim (q q' : Sh) (g : Int → Bool) : Prop where
  clk : q'.clk ≤ q.clk
  ver : ∀ s, q'.ver s ≤ q.ver s
  own : ∀ s, q'.own s = if 0 ≤ q.own s ∧ g (q.own s) = true then -1 else q.own s
  com : q'.com = q.com
  att : ∀ t, g t = false → q'.att t = q.att t ∧ ¬ (10 ≤ (q.att t).last) ∧ ((q.att t).last = 2 → (q.att t).lv ≤ q'.ver (q.att t).lp)
  gone : ∀ t, g t = true → overA (q'.att t) = true ∧ (q'.att t).why ≠ 6
/-- What is behind an event that may come: nothing of a version falls, nor the clock. -/
theorem grows {T V S : Int} {q : Sh} {e : Ev} (hI : Inv S T q) (hm : mayS T V S q e = true) : q.clk ≤ (stepS S q e).clk ∧ ∀ s, q.ver s ≤ (stepS S q e).ver s := by
  obtain ⟨hb, hq⟩ := may13 hm
  obtain ⟨hsz, hth, hk⟩ := (may_iff _ _ _ _).1 hb
  have hA := hI.t e.th hth.1
  obtain ⟨kd, th, tx, pl, v, x, why⟩ := e
  simp only at hth hq hA
  refine ⟨?_, fun s => ?_⟩
  · simp only [stepS]
    by_cases h1 : kd = 1
    · subst h1
      simp [mayQ] at hq
      simp
      exact hq.2.2.2
    by_cases h5 : kd = 5
    · subst h5
      simp [mayQ] at hq
      simp
      omega
    simp [h1, h5]
  · simp only [stepS]
    by_cases h2 : kd = 2
    · subst h2
      simp [mayQ] at hq
      simp
      by_cases hs : s = pl
      · subst hs; rw [updF_same]; omega
      · rw [updF_other hs]; omega
    by_cases h9 : kd = 9
    · subst h9
      simp [mayQ] at hq
      simp
      by_cases hs : s = pl
      · subst hs
        rw [updF_same]
        have hne : (q.att th).lk ≠ [] := fun h => by rw [h] at hq; simp at hq
        have hb := hA.bmw (.inr (.inr ⟨by omega, hne⟩))
        have := hb.2.2.2 _ _ (Nat.le_refl _) hq.2.2
        rw [hb.1] at this
        omega
      · rw [updF_other hs]; omega
    simp [h2, h9]
theorem sim_drop {T V S : Int} {q q' : Sh} {e : Ev} {g g' : Int → Bool} (hI : Inv S T q) (hm : mayS T V S q e = true) (h : Sim q q' g) (hg' : g' = if e.kd = 1 then updF g e.th true else g) (hgt : g' e.th = true) (hcom : (stepS S q e).com = q.com) : Sim (stepS S q e) q' g' := by
  obtain ⟨hc, hv⟩ := grows hI hm
  have hOwn := hI.own
  obtain ⟨hb, hq⟩ := may13 hm
  obtain ⟨hsz, hth, hk⟩ := (may_iff _ _ _ _).1 hb
  have hA := hI.t e.th hth.1
  have hatt : ∀ t, g' t = false → (stepS S q e).att t = q.att t ∧ g t = false := fun t ht => by
    have hne : t ≠ e.th := by rintro rfl; rw [hgt] at ht; cases ht
    refine ⟨updF_other hne, ?_⟩
    · subst hg'
      by_cases h1 : e.kd = 1
      · simp only [h1, if_true] at ht
        rwa [updF_other hne] at ht
      · simpa [h1] using ht
  refine ⟨Int.le_trans h.clk hc, fun s => Int.le_trans (h.ver s) (hv s), fun s => ?_, by rw [hcom]; exact h.com, fun t ht => ?_, fun t ht => ?_⟩
  · obtain ⟨kd, th, tx, pl, v, x, why⟩ := e
    simp only at hth hq hA hgt hg'
    have h0 := h.own s
    have hos := hOwn s
    simp only [stepS]
    by_cases h1 : kd = 1
    · subst h1
      simp [mayQ] at hq
      have hn := over_none hA hq.1 s
      simp only [if_true] at hg'
      subst hg'
      simp
      rw [updF_other hn]
      exact h0
    · simp only [h1, if_false] at hg'
      subst hg'
      by_cases h4 : kd = 4
      · subst h4
        simp [mayQ] at hq
        simp
        by_cases hs : s = pl
        · subst hs
          rw [updF_same, if_pos ⟨hth.1, hgt⟩, h0, if_neg (by omega)]
          omega
        · rw [updF_other hs]; exact h0
      · by_cases h9 : kd = 9 ∨ kd = 11
        · simp only [h4, h9, if_true, if_false]
          by_cases hs : s = pl
          · subst hs
            have hm2 : q.own s = th := by
              rcases h9 with rfl | rfl
              · simp [mayQ] at hq
                exact hA.mine _ _ (Nat.le_refl _) hq.2.2
              · simp [mayQ] at hq
                exact hA.mine _ _ (Nat.le_refl _) hq.2.2
            rw [updF_same, h0, hm2, if_pos ⟨hth.1, hgt⟩, if_neg (by omega)]
          · rw [updF_other hs]; exact h0
        · simp only [h4, h9, if_false]
          exact h0
  · obtain ⟨e1, e3⟩ := hatt t ht
    rw [e1]
    exact h.att t e3
  · by_cases hgt2 : g t = true
    · exact h.gone t hgt2
    · have h1 : e.kd = 1 ∧ t = e.th := by
        subst hg'
        by_cases h1 : e.kd = 1
        · refine ⟨h1, ?_⟩
          by_cases hte : t = e.th
          · exact hte
          · simp only [h1, if_true] at ht
            rw [updF_other hte] at ht
            exact absurd ht hgt2
        · simp only [h1, if_false] at ht
          exact absurd ht hgt2
      obtain ⟨h1, rfl⟩ := h1
      have ha := (h.att e.th (by simpa using hgt2)).1
      simp [mayQ, h1] at hq
      rw [ha]
      exact ⟨hq.1, hq.2.1⟩
theorem att_last (S : Int) (a : Att) (e : Ev) (h : 1 ≤ e.kd ∧ e.kd ≤ 13) : (attF S a e).last = e.kd ∧ (attF S a e).lp = e.pl ∧ (attF S a e).lv = e.v := by
  unfold attF
  split
  · rename_i k; exact ⟨k.symm, rfl, rfl⟩
  split
  · rename_i k; exact ⟨k.symm, rfl, rfl⟩
  split
  · rename_i k; exact ⟨k.symm, rfl, rfl⟩
  split
  · rename_i k; exact ⟨k.symm, rfl, rfl⟩
  split
  · rename_i k; exact ⟨k.symm, rfl, rfl⟩
  split
  · rename_i k; exact ⟨k.symm, rfl, rfl⟩
  split
  · exact ⟨rfl, rfl, rfl⟩
  split
  · rename_i k; exact ⟨k.symm, rfl, rfl⟩
  · exact ⟨rfl, rfl, rfl⟩
theorem keep_may {T V S : Int} {q q' : Sh} {e : Ev} {g g' : Int → Bool} (hI : Inv S T q) (hm : mayS T V S q e = true) (h : Sim q q' g) (hg' : g' = if e.kd = 1 then updF g e.th false else g) (hgt : g' e.th = false) (h10 : e.kd ≠ 10) (h12 : e.kd ≠ 12) : mayS T V S q' e = true := by
  obtain ⟨hb, hq⟩ := may13 hm
  obtain ⟨hsz, hth, hk⟩ := (may_iff _ _ _ _).1 hb
  unfold mayS
  rw [hb, Bool.true_and, decide_eq_true_eq]
  unfold MayK at hk
  clear hb hsz hm
  obtain ⟨kd, th, tx, pl, v, x, why⟩ := e
  simp only at hth hq hk hgt hg' h10 h12 ⊢
  by_cases h1 : kd = 1
  · subst h1
    simp [mayQ] at hq ⊢
    have ho : overA (q'.att th) = true ∧ (q'.att th).why ≠ 6 := by
      cases hg : g th with
      | true => exact h.gone th hg
      | false => rw [(h.att th hg).1]; exact ⟨hq.1, hq.2.1⟩
    refine ⟨ho.1, ho.2, by rw [h.com]; exact hq.2.2.1, Int.le_trans h.clk hq.2.2.2⟩
  · simp only [h1, if_false] at hg'
    subst hg'
    obtain ⟨ea, hl, hlv⟩ := h.att th hgt
    have o1 : ∀ s, q.own s < 0 → q'.own s < 0 := fun s hs => by rw [h.own, if_neg (by omega)]; exact hs
    have o2 : ∀ s, q.own s = th → q'.own s = th := fun s hs => by rw [h.own, hs, if_neg (by simp [hgt])]
    have o3 : ∀ s, (0 ≤ q.own s → q.own s = th) → (0 ≤ q'.own s → q'.own s = th) := fun s hs => by
      intro h0
      by_cases hn : q.own s < 0
      · have := o1 s hn; omega
      · exact o2 s (hs (by omega))
    have hv := h.ver
    have hc := h.clk
    rw [ea]
    generalize q.att th = a at *
    have : kd = 2 ∨ kd = 3 ∨ kd = 4 ∨ kd = 5 ∨ kd = 6 ∨ kd = 7 ∨ kd = 8 ∨ kd = 9 ∨ kd = 11 ∨ kd = 13 := by omega
    rcases this with rfl | rfl | rfl | rfl | rfl | rfl | rfl | rfl | rfl | rfl
    · simp [mayQ] at hq ⊢
      have := hv pl
      exact ⟨hq.1, hq.2.1, o1 _ hq.2.2.1, by omega, hq.2.2.2.2⟩
    · simp [mayQ] at hq ⊢
      have h1 := hv (pl % S)
      have h2 := hlv hq.2.1
      rw [hq.2.2.1] at h2
      exact ⟨hq.1, hq.2.1, hq.2.2.1, o1 _ hq.2.2.2.1, by omega⟩
    · simp [mayQ] at hq ⊢
      exact ⟨hq.1, hq.2.1, hq.2.2.1, o1 _ hq.2.2.2⟩
    · simp [mayQ] at hq ⊢
      exact ⟨hq.1, hq.2.1, by omega⟩
    · simp [mayQ] at hq ⊢
      have := hv pl
      exact ⟨hq.1, hq.2.1, hq.2.2.1, o3 _ hq.2.2.2.1, by omega⟩
    · simp [mayQ] at hq ⊢
      exact hq
    · simp [mayQ] at hq ⊢
      exact ⟨hq.1, hq.2.1, hq.2.2.1, o2 _ hq.2.2.2⟩
    · simp [mayQ] at hq ⊢
      exact hq
    · simp [mayQ] at hq
      omega
    · simp [mayQ] at hq
      omega
theorem sim_keep {T V S : Int} {q q' : Sh} {e : Ev} {g g' : Int → Bool} (hI : Inv S T q) (hI' : Inv S T q') (hm : mayS T V S q e = true) (h : Sim q q' g) (hg' : g' = if e.kd = 1 then updF g e.th false else g) (hgt : g' e.th = false) (h10 : e.kd ≠ 10) (h12 : e.kd ≠ 12) : Sim (stepS S q e) (stepS S q' e) g' := by
  have hm' := keep_may hI hm h hg' hgt h10 h12
  have hgr := (grows hI' hm').2
  obtain ⟨hb, hq⟩ := may13 hm
  obtain ⟨hsz, hth, hk⟩ := (may_iff _ _ _ _).1 hb
  have hA := hI.t e.th hth.1
  have hk2 : 1 ≤ e.kd ∧ e.kd ≤ 13 := by unfold MayK at hk; omega
  -- the attempt behind it is the same in both
  have hat : attF S (q'.att e.th) e = attF S (q.att e.th) e := by
    by_cases h1 : e.kd = 1
    · simp [attF, h1]
    · simp only [h1, if_false] at hg'
      subst hg'
      rw [(h.att e.th hgt).1]
  have hbm : e.kd ≠ 1 → q'.att e.th = q.att e.th ∧ ¬ (10 ≤ (q.att e.th).last) := fun h1 => by
    simp only [h1, if_false] at hg'
    subst hg'
    exact ⟨(h.att e.th hgt).1, (h.att e.th hgt).2.1⟩
  have hlast := att_last S (q.att e.th) e hk2
  have hk3 : e.kd ≠ 11 ∧ e.kd ≠ 13 := by
    constructor <;> intro h1 <;> have := (hbm (by omega)).2 <;> simp [mayQ, h1] at hq <;> omega
  have hgo : ∀ t, t ≠ e.th → g' t = g t := fun t ht => by
    subst hg'
    split
    · exact updF_other ht
    · rfl
  refine ⟨?_, fun s => ?_, fun s => ?_, ?_, fun t ht => ?_, fun t ht => ?_⟩
  · simp only [stepS]
    split
    · exact Int.le_refl _
    · exact h.clk
  · simp only [stepS]
    by_cases h2 : e.kd = 2
    · simp only [h2, if_true]
      by_cases hs : s = e.pl
      · subst hs; rw [updF_same, updF_same]; exact Int.le_refl _
      · rw [updF_other hs, updF_other hs]; exact h.ver s
    · by_cases h9 : e.kd = 9
      · have : q'.bmp e.th = q.bmp e.th := by
          have ha := (hbm (by omega)).1
          have hA' := hI'.t e.th hth.1
          rw [ha] at hA'
          simp [mayQ, h9] at hq
          have hne : (q.att e.th).lk ≠ [] := fun h => by rw [h] at hq; simp at hq
          rw [← (hA.bmw (.inr (.inr ⟨by omega, hne⟩))).1, ← (hA'.bmw (.inr (.inr ⟨by omega, hne⟩))).1]
        simp only [h9, if_true]
        simp
        by_cases hs : s = e.pl
        · subst hs; rw [updF_same, updF_same, this]; exact Int.le_refl _
        · rw [updF_other hs, updF_other hs]; exact h.ver s
      · simp only [h2, h9, if_false]
        exact h.ver s
  · simp only [stepS]
    have h0 := h.own s
    by_cases h4 : e.kd = 4
    · simp only [h4, if_true]
      by_cases hs : s = e.pl
      · subst hs
        rw [updF_same, updF_same, if_neg (by simp [hgt])]
      · rw [updF_other hs, updF_other hs, h0]
        subst hg'
        simp [h4]
    · by_cases h9 : e.kd = 9 ∨ e.kd = 11
      · simp only [h4, h9, if_true, if_false]
        by_cases hs : s = e.pl
        · subst hs
          rw [updF_same, updF_same, if_neg (by omega)]
        · rw [updF_other hs, updF_other hs, h0]
          subst hg'
          have : e.kd ≠ 1 := by omega
          simp [this]
      · simp only [h4, h9, if_false]
        rw [h0]
        by_cases h1 : e.kd = 1
        · simp [mayQ, h1] at hq
          rw [hgo _ (over_none hA hq.1 s)]
        · subst hg'
          simp [h1]
  · simp only [stepS, hat, h.com]
  · by_cases hte : t = e.th
    · subst hte
      have e1 : (stepS S q e).att e.th = attF S (q.att e.th) e := updF_same _ _ _
      have e2 : (stepS S q' e).att e.th = attF S (q'.att e.th) e := updF_same _ _ _
      rw [e1, e2, hat]
      refine ⟨rfl, by rw [hlast.1]; omega, fun h2 => ?_⟩
      rw [hlast.1] at h2
      rw [hlast.2.1, hlast.2.2]
      simp only [stepS, h2, if_true]
      rw [updF_same]
      exact Int.le_refl _
    · have e1 : (stepS S q e).att t = q.att t := updF_other hte
      have e2 : (stepS S q' e).att t = q'.att t := updF_other hte
      obtain ⟨a1, a3, a4⟩ := h.att t (by rw [← hgo t hte]; exact ht)
      rw [e1, e2]
      exact ⟨a1, a3, fun hl => Int.le_trans (a4 hl) (hgr _)⟩
  · have hte : t ≠ e.th := by rintro rfl; rw [hgt] at ht; cases ht
    have e2 : (stepS S q' e).att t = q'.att t := updF_other hte
    rw [e2]
    exact h.gone t (by rw [← hgo t hte]; exact ht)
end Go.Proofs.YtjennlkindbpoaaDoor
namespace Go.Proofs.YtjennlkindbpoaaDoor
set_option maxRecDepth 100000
set_option linter.unusedVariables false
set_option linter.unusedSimpArgs false
/-- How many attempts a thread has begun. -/
def numB (t : Int) (l : List Ev) : Nat := l.countP fun e => decide (e.th = t ∧ e.kd = 1)
theorem numB_next {L : List Ev} {i : Nat} {e : Ev} (t : Int) (h : L[i]? = some e) : numB t (L.take (i + 1)) = numB t (L.take i) + if e.th = t ∧ e.kd = 1 then 1 else 0 := by
  unfold numB
  rw [List.take_add_one, h, List.countP_append]
  simp [List.countP_cons]
theorem numB_mono (t : Int) (L : List Ev) (i d : Nat) : numB t (L.take i) ≤ numB t (L.take (i + d)) := by
  induction d with
  | zero => exact Nat.le_refl _
  | succ d ih =>
    refine Nat.le_trans ih ?_
    cases h : L[i + d]? with
    | none => 
      have := List.getElem?_eq_none_iff.1 h
      rw [List.take_of_length_le this, List.take_of_length_le (by omega)]
      exact Nat.le_refl _
    | some e =>
      rw [← Nat.add_assoc, numB_next t h]
      omega
def goneP (L : List Ev) (t : Int) (n : Nat) : Prop := ∃ j e, L[j]? = some e ∧ e.th = t ∧ (e.kd = 10 ∨ e.kd = 12) ∧ numB t (L.take (j + 1)) = n
/-- The events of the attempts that are kept, of the first ones. -/
def keptF (G : Int → Nat → Bool) (L : List Ev) : Nat → List Ev
  | 0 => []
  | k + 1 => match L[k]? with
    | some e => if G e.th (numB e.th (L.take (k + 1))) = true then keptF G L k else keptF G L k ++ [e]
    | none => keptF G L k
theorem att_other {S : Int} {q : Sh} {e : Ev} {t : Int} (h : e.th ≠ t) : (stepS S q e).att t = q.att t := updF_other (Ne.symm h)
theorem att_same {S : Int} {q : Sh} {e : Ev} : (stepS S q e).att e.th = attF S (q.att e.th) e := updF_same _ _ _
/-- Behind an Abort or a Wait, as long as the thread begins none anew. -/
theorem fate_late {T V S : Int} {L : List Ev} (hF : Fine T V S L) {j : Nat} {ej : Ev} (hj : L[j]? = some ej) (hk : ej.kd = 10 ∨ ej.kd = 12) (d : Nat) (hd : j + 1 + d ≤ L.length) (hn : numB ej.th (L.take (j + 1 + d)) = numB ej.th (L.take (j + 1))) : 10 ≤ ((behind S (L.take (j + 1 + d))).att ej.th).last := by
  induction d with
  | zero =>
    rw [Nat.add_zero, behind_next hj, att_same, (att_last S _ ej (by omega)).1]
    omega
  | succ d ih =>
    have h : L[j + 1 + d]? = some L[j + 1 + d] := List.getElem?_eq_getElem (by omega)
    have m1 := numB_mono ej.th L (j + 1) d
    have hx := numB_next ej.th h
    rw [← Nat.add_assoc] at hn ⊢
    rw [hn] at hx
    have hi := ih (by omega) (by split at hx <;> omega)
    rw [behind_next h]
    by_cases ht : (L[j + 1 + d]).th = ej.th
    · have hne : ¬ (L[j + 1 + d]).kd = 1 := fun h1 => by rw [if_pos ⟨ht, h1⟩] at hx; omega
      have hm := hF _ _ h
      obtain ⟨hb, hq⟩ := may13 hm
      obtain ⟨hsz, hth, hkk⟩ := (may_iff _ _ _ _).1 hb
      generalize L[j + 1 + d] = e at *
      have hk2 : 1 ≤ e.kd ∧ e.kd ≤ 13 := by unfold MayK at hkk; omega
      rw [← ht] at hi ⊢
      rw [att_same, (att_last S _ e hk2).1]
      clear hb hsz hth hkk hm hF
      unfold mayQ at hq
      rw [if_neg hne] at hq
      have hq := hq.2
      apply Classical.byContradiction
      intro hlt
      have : e.kd = 2 ∨ e.kd = 3 ∨ e.kd = 4 ∨ e.kd = 5 ∨ e.kd = 6 ∨ e.kd = 7 ∨ e.kd = 8 ∨ e.kd = 9 := by omega
      rcases this with k | k | k | k | k | k | k | k <;> simp [k, readsA, checksA] at hq <;> (try split at hq) <;> omega
    · rw [att_other ht]
      exact hi
/-- Behind the end of an attempt, as long as the thread begins none anew. -/
theorem fate_over {T V S : Int} {L : List Ev} (hF : Fine T V S L) {t : Int} (i : Nat) (ho : overA ((behind S (L.take i)).att t) = true) (d : Nat) (hd : i + d ≤ L.length) (hn : numB t (L.take (i + d)) = numB t (L.take i)) : overA ((behind S (L.take (i + d))).att t) = true := by
  induction d with
  | zero => exact ho
  | succ d ih =>
    have h : L[i + d]? = some L[i + d] := List.getElem?_eq_getElem (by omega)
    have m1 := numB_mono t L i d
    have hx := numB_next t h
    rw [← Nat.add_assoc] at hn ⊢
    rw [hn] at hx
    have hi := ih (by omega) (by split at hx <;> omega)
    rw [behind_next h]
    by_cases ht : (L[i + d]).th = t
    · have hne : ¬ (L[i + d]).kd = 1 := fun h1 => by rw [if_pos ⟨ht, h1⟩] at hx; omega
      have hq := (may13 (hF _ _ h)).2
      unfold mayQ at hq
      rw [if_neg hne, ht, hi] at hq
      cases hq.1
    · rw [att_other ht]
      exact hi
theorem drop_com {T V S : Int} {L : List Ev} (hF : Fine T V S L) {k : Nat} {e : Ev} (he : L[k]? = some e) (hg : goneP L e.th (numB e.th (L.take (k + 1)))) : (stepS S (behind S (L.take k)) e).com = (behind S (L.take k)).com := by
  obtain ⟨j, ej, hj, hjt, hjk, hn⟩ := hg
  have hkl := (List.getElem?_eq_some_iff.1 he).1
  have hjl := (List.getElem?_eq_some_iff.1 hj).1
  simp only [stepS]
  split
  · rename_i hc
    exfalso
    obtain ⟨hkd, hov⟩ := hc
    have hne : ¬ e.kd = 1 := by omega
    have hx := numB_next e.th he
    rw [if_neg (fun h => hne h.2), Nat.add_zero] at hx
    rcases Nat.lt_trichotomy j k with h | h | h
    · obtain ⟨d, hd⟩ : ∃ d, k = j + 1 + d := ⟨k - j - 1, by omega⟩
      have hl := fate_late hF hj hjk d (by omega) (by rw [← hd, hjt]; omega)
      rw [← hd, hjt] at hl
      have hq := (may13 (hF _ _ he)).2
      unfold mayQ at hq
      rw [if_neg hne] at hq
      have hq := hq.2
      rcases hkd with k9 | k9 <;> simp [k9, readsA, checksA] at hq <;> (try split at hq) <;> omega
    · subst h
      rw [he] at hj
      cases Option.some.inj hj
      omega
    · obtain ⟨d, hd⟩ : ∃ d, j = k + 1 + d := ⟨j - k - 1, by omega⟩
      have hxj := numB_next e.th hj
      rw [if_neg (fun h => by omega), Nat.add_zero] at hxj
      have ho : overA ((behind S (L.take (k + 1))).att e.th) = true := by rw [behind_next he, att_same]; exact hov
      have hl := fate_over hF (k + 1) ho d (by omega) (by rw [← hd]; omega)
      rw [← hd] at hl
      have hq := (may13 (hF _ _ hj)).2
      unfold mayQ at hq
      rw [if_neg (by omega), hjt, hl] at hq
      cases hq.1
  · rfl
theorem behind_snoc (S : Int) (K : List Ev) (e : Ev) : behind S (K ++ [e]) = stepS S (behind S K) e := by
  unfold behind
  rw [List.foldl_append]
  rfl
theorem fine_snoc {T V S : Int} {K : List Ev} {e : Ev} (h : Fine T V S K) (hm : mayS T V S (behind S K) e = true) : Fine T V S (K ++ [e]) := fun i x hx => by
  by_cases hi : i < K.length
  · rw [List.getElem?_append_left hi] at hx
    rw [List.take_append_of_le_length (by omega)]
    exact h i x hx
  · have hl := (List.getElem?_eq_some_iff.1 hx).1
    simp at hl
    have : i = K.length := by omega
    subst this
    simp at hx
    subst hx
    rw [List.take_append_of_le_length (Nat.le_refl _), List.take_length]
    exact hm
theorem kept_fine {T V S : Int} {L : List Ev} (hF : Fine T V S L) (G : Int → Nat → Bool) (hG : ∀ t n, G t n = true ↔ goneP L t n) (k : Nat) (hk : k ≤ L.length) : Fine T V S (keptF G L k) ∧ Sim (behind S (L.take k)) (behind S (keptF G L k)) (fun t => G t (numB t (L.take k))) := by
  induction k with
  | zero =>
    refine ⟨fun i e h => by simp [keptF] at h, ?_⟩
    show Sim sh0 sh0 _
    refine ⟨Int.le_refl _, fun s => Int.le_refl _, fun s => ?_, rfl, fun t _ => ⟨rfl, ?_, fun h => ?_⟩, fun t _ => ⟨rfl, ?_⟩⟩
    · exact (ite_self (-1 : Int)).symm
    · show ¬ (10 : Int) ≤ 0
      decide
    · exact absurd (show (0 : Int) = 2 from h) (by decide)
    · show (0 : Int) ≠ 6
      decide
  | succ k ih =>
    obtain ⟨i1, i2⟩ := ih (by omega)
    have h : L[k]? = some L[k] := List.getElem?_eq_getElem (by omega)
    have hI := fine_inv hF k (by omega)
    have hm := hF k _ h
    have hI' : Inv S T (behind S (keptF G L k)) := by
      have := fine_inv i1 (keptF G L k).length (Nat.le_refl _)
      rwa [List.take_length] at this
    have hnx := fun t => numB_next t h
    have hkf : keptF G L (k + 1) = if G (L[k]).th (numB (L[k]).th (L.take (k + 1))) = true then keptF G L k else keptF G L k ++ [L[k]] := by
      show (match L[k]? with | some e => _ | none => _) = _
      rw [h]
    rw [behind_next h, hkf]
    have hdc := fun hg => drop_com hF h hg
    have hgo : ∀ j e, L[j]? = some e → (e.kd = 10 ∨ e.kd = 12) → G e.th (numB e.th (L.take (j + 1))) = true := fun j e hj hk => (hG _ _).2 ⟨j, e, hj, rfl, hk, rfl⟩
    have hgk := hgo k _ h
    generalize hb : L[k] = e at *
    have hg' : ∀ b, G e.th (numB e.th (L.take (k + 1))) = b → (fun t => G t (numB t (L.take (k + 1)))) = if e.kd = 1 then updF (fun t => G t (numB t (L.take k))) e.th b else fun t => G t (numB t (L.take k)) := fun b hb => by
      funext t
      by_cases h1 : e.kd = 1
      · simp only [h1, if_true]
        by_cases ht : t = e.th
        · subst ht
          rw [updF_same]
          exact hb
        · rw [updF_other ht]
          show G t _ = G t _
          rw [hnx t, if_neg (fun x => ht x.1.symm), Nat.add_zero]
      · simp only [h1, if_false]
        rw [hnx t, if_neg (fun x => h1 x.2), Nat.add_zero]
    cases hc : G e.th (numB e.th (L.take (k + 1))) with
    | true =>
      simp only [if_true]
      exact ⟨i1, sim_drop hI hm i2 (hg' _ hc) hc (hdc ((hG _ _).1 hc))⟩
    | false =>
      have n10 : e.kd ≠ 10 := fun h => by have := hgk (.inl h); rw [hc] at this; cases this
      have n12 : e.kd ≠ 12 := fun h => by have := hgk (.inr h); rw [hc] at this; cases this
      have hmk := keep_may hI hm i2 (hg' _ hc) hc n10 n12
      rw [if_neg (by simp), behind_snoc]
      exact ⟨fine_snoc i1 hmk, sim_keep hI hI' hm i2 (hg' _ hc) hc n10 n12⟩
end Go.Proofs.YtjennlkindbpoaaDoor
