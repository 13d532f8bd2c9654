/-
  A REGION THAT DRAWS ITS ORDER, WITH A TAIL, BY A STATE: the first operations in whatever order, each with a temporary of its own, by a predicate of which of them are done, what they left, and the memory (which they may write); those behind wait for all of these (at once, or by way of others), and come one behind the other. Conditions: no two of the first have one temporary; none has a guard.
-/
import Derived.Test.YtjennlkindbpoaaDoorRt
namespace Go.Proofs.YtjennlkindbpoaaDoor
set_option maxRecDepth 100000
open Go.RowKit
set_option linter.unusedVariables false
section
variable {P : Program} {ops : Array Oper} {Q : Exit → Act → World → Prop}
/-- Which of the first n are done. -/
def donR (n : Nat) (listed : Array Bool) : Nat → Bool := fun j => decide (j < n) && listed.getD j false
theorem donR_set {n i : Nat} {listed : Array Bool} (hi : i < n) (hs : i < listed.size) : donR n (listed.setIfInBounds i true) = fun j => j == i || donR n listed j := by
  funext j
  unfold donR
  rw [listed_set hs]
  by_cases h : j = i
  · subst h
    simp [hi]
  · rw [if_neg h, beq_eq_false_iff_ne.2 h, Bool.false_or]
def SI (J : (Nat → Bool) → (Nat → Value) → World → Prop) (ds : List Nat) (T : Array Value) (P : Program) (ops : Array Oper) (Q : Exit → Act → World → Prop) (listed : Array Bool) (a : Act) (w : World) : Prop := listed.size = ops.size ∧
  (((∀ j, ds.length ≤ j → j < ops.size → listed.getD j true = false) ∧ (∀ i o, i < ds.length → listed.getD i true = true → ops[i]? = some o → ∀ e ∈ o.after.toList, Region.binds .any e = true → listed.getD e.on true = true) ∧ ∃ us : List Value, us.length = ds.length ∧ a = ⟨putAll T ds us, []⟩ ∧ J (donR ds.length listed) (fun j => us.getD j undef) w) ∨
   ∃ k, ds.length ≤ k ∧ k ≤ ops.size ∧ (∀ j, j < ops.size → listed.getD j true = decide (j < k)) ∧ wpList P ops Q (ops.toList.drop k) a w)
theorem wp_region_st {id : Nat} (J : (Nat → Bool) → (Nat → Value) → World → Prop) (ds : List Nat) (W : World) (T : Array Value) (hn : ds.Nodup) (hd : ∀ d ∈ ds, d < T.size) (hm : P.follows .mixedOrders = true) (hops : okTail ds ops = true)
    (h0 : ∀ u, J (fun _ => false) u W.drew)
    (hstep : ∀ i o, ops[i]? = some o → i < ds.length → ∀ (don : Nat → Bool) (u : Nat → Value) (a : Act) (w : World), (∀ t, t ∉ ds → a.tmps[t]? = T[t]?) → (∀ j, j < ds.length → a.tmps[ds.getD j 0]? = some (u j)) → don i = false → (∀ e ∈ o.after.toList, Region.binds .any e = true → don e.on = true) → J don u w →
      ∀ K : Act → World → Prop, (∀ v w', J (fun j => j == i || don j) (fun j => if j = i then v else u j) w' → K (a.put o.dst v) w') → Oper.wp P o a w K Q)
    (hend : ∀ (us : List Value) (w : World), us.length = ds.length → J (fun j => decide (j < ds.length)) (fun j => us.getD j undef) w → wpList P ops Q (ops.toList.drop ds.length) ⟨putAll T ds us, []⟩ w) :
    (Code.region id ops true).wp P Q ⟨T, []⟩ W := by
  unfold okTail at hops
  rw [Bool.and_eq_true, decide_eq_true_eq] at hops
  obtain ⟨hsz, hall0⟩ := hops
  have hall : ∀ (i : Nat) (o : Oper), ops[i]? = some o → o.guard = none ∧ (∀ e ∈ o.after.toList, Region.binds .any e = true → e.on < i) ∧ (∀ h : i < ds.length, o.dst = some ds[i]) ∧ (ds.length ≤ i → (∀ j, j < ds.length → j ∈ reachT ops 6 i) ∧ (ds.length < i → ∃ e ∈ o.after.toList, Region.binds .any e = true ∧ e.on + 1 = i)) := by
    intro i o ho
    have hi : i < ops.size := (Array.getElem?_eq_some_iff.1 ho).1
    have h1 := List.all_eq_true.1 hall0 i (by simpa using hi)
    rw [ho] at h1
    simp only [Bool.and_eq_true, Bool.or_eq_true, beq_iff_eq, Option.isNone_iff_eq_none, decide_eq_true_eq] at h1
    obtain ⟨⟨⟨h1, h2⟩, h3⟩, h4⟩ := h1
    refine ⟨h1, fun e he hbn => ?_, fun h => ?_, fun h => ?_⟩
    · have h5 := Array.all_eq_true'.1 h2 e (by simpa using he)
      simpa [hbn] using h5
    · rcases h3 with h3 | h3
      · omega
      · rw [h3, List.getElem?_eq_getElem h]
    · rcases h4 with h4 | h4
      · omega
      · refine ⟨fun j hj => ?_, fun hlt => ?_⟩
        · have h5 := List.all_eq_true.1 h4.1 j (by simpa using hj)
          simpa using h5
        · rcases h4.2 with h5 | h5
          · omega
          · obtain ⟨e, he, h6⟩ := Array.any_eq_true'.1 h5
            simp only [Bool.and_eq_true, beq_iff_eq] at h6
            exact ⟨e, by simpa using he, h6.1, h6.2⟩
  have hat : ∀ (us : List Value) (i : Nat) (hi : i < ds.length), us.length = ds.length → (putAll T ds us)[ds[i]]? = some (us.getD i undef) := fun us i hi hu => by
    rw [putAll_at T ds us i hi hu.symm hn (hd _ (List.getElem_mem hi)), List.getD_eq_getElem?_getD, List.getElem?_eq_getElem (by omega)]
    rfl
  have hdon0 : donR ds.length (Array.replicate ops.size false) = fun _ => false := by
    funext j
    unfold donR
    rw [Array.getD_eq_getD_getElem?, Array.getElem?_replicate]
    split <;> simp
  refine wp_region_any hm ?_
  refine wpAny_inv (I := SI J ds T P ops Q) (fun _ _ _ h => h.1) ?_ ?_ _ _ _ _ ⟨by simp, .inl ⟨fun j hj hjs => ?_, fun i o hi hl ho => ?_, ds.map (fun d => T.getD d undef), by simp, by rw [putAll_id ds T hn hd], by rw [hdon0]; exact h0 _⟩⟩ ?_
  · rintro listed a w ⟨hs, h⟩ i hi
    obtain ⟨h1, h2, h3⟩ := ready_of hi
    have ho : ops[i]? = some ops[i] := Array.getElem?_eq_getElem h1
    obtain ⟨hg, hw3, hw1, hw4⟩ := hall i _ ho
    have h2' : listed.getD i true = false := h2
    have hdone : ∀ e ∈ ops[i].after.toList, Region.binds .any e = true → listed.getD e.on true = true := fun e he hbn => by
      have := hw3 e he hbn
      rw [getD_both (by omega) true false]
      exact h3 _ ho e he hbn
    rcases h with ⟨hnl, hcl, us, hu, rfl, hJ⟩ | ⟨k, hk1, hk2, hkl, hq⟩
    · by_cases hv : i < ds.length
      · have o1 := hw1 hv
        unfold wpOp
        rw [ho]
        have hw : Region.wanted ops[i] (yielded ops (⟨putAll T ds us, []⟩ : Act).tmps) = true := by simp [Region.wanted, hg]
        simp only [hw, if_true]
        refine .inl (hstep i _ ho hv (donR ds.length listed) (fun j => us.getD j undef) ⟨putAll T ds us, []⟩ w (fun t ht => putAll_far _ _ _ _ ht) (fun j hj => ?_) ?_ (fun e he hbn => ?_) hJ _ fun v w' hv' => ?_)
        · have hge : ds.getD j 0 = ds[j] := by rw [List.getD_eq_getElem?_getD, List.getElem?_eq_getElem hj]; rfl
          rw [hge]
          exact hat us j hj hu
        · unfold donR
          rw [getD_both (by omega) false true, h2', Bool.and_false]
        · have hlt := hw3 e he hbn
          unfold donR
          rw [decide_eq_true (by omega), getD_both (by omega) false true, hdone e he hbn]
          rfl
        · refine ⟨by simpa using hs, .inl ⟨fun j hj hjs => ?_, fun i2 o2 hi2 hl2 ho2 e he hbn => ?_, us.set i v, by simpa using hu, ?_, ?_⟩⟩
          · rw [listed_set (by omega), if_neg (by omega)]
            exact hnl j hj hjs
          · rw [listed_set (by omega)]
            split
            · rfl
            · by_cases h2i : i2 = i
              · subst h2i
                rw [ho] at ho2
                cases ho2
                exact hdone e he hbn
              · rw [listed_set (by omega), if_neg h2i] at hl2
                exact hcl i2 o2 hi2 hl2 ho2 e he hbn
          · rw [o1, putAll_set ds us T i v hv hu.symm hn]
            rfl
          · rw [donR_set hv (by omega)]
            have hf : (fun j => (us.set i v).getD j undef) = fun j => if j = i then v else us.getD j undef := by
              funext j
              by_cases h : j = i
              · subst h
                rw [List.getD_eq_getElem?_getD, List.getElem?_set_self (by omega), if_pos rfl]
                rfl
              · rw [List.getD_eq_getElem?_getD, List.getElem?_set_ne (by omega), ← List.getD_eq_getElem?_getD, if_neg h]
            rw [hf]
            exact hv'
      · obtain ⟨w1, w2⟩ := hw4 (by omega)
        have hii : i = ds.length := by
          rcases Nat.lt_or_ge ds.length i with hlt | hge
          · obtain ⟨e, he, hbn, hon⟩ := w2 hlt
            have h5 := hdone e he hbn
            rw [hnl e.on (by omega) (by omega)] at h5
            cases h5
          · omega
        subst hii
        have hle : ∀ j, j < ds.length → listed.getD j true = true := fun j hj => by
          refine (reachT_done (D := fun j => j < ds.length ∧ listed.getD j true = true) (fun i2 o2 h h2 e he hbn => ⟨?_, hcl i2 o2 h.1 h.2 h2 e he hbn⟩) 6 ds.length _ ho (fun e he hbn => ⟨hw3 e he hbn, hdone e he hbn⟩) j (w1 j hj)).2
          have := (hall i2 o2 h2).2.1 e he hbn
          have := h.1
          omega
        have hd2 : donR ds.length listed = fun j => decide (j < ds.length) := by
          funext j
          unfold donR
          by_cases hj : j < ds.length
          · rw [getD_both (by omega) false true, hle j hj, Bool.and_true]
          · rw [decide_eq_false hj, Bool.false_and]
        rw [hd2] at hJ
        have hlist := hend us w hu hJ
        rw [wpList_at h1] at hlist
        refine wpOp_mono (fun a' w' hq => ⟨by simpa using hs, .inr ⟨ds.length + 1, by omega, by omega, fun j hj => ?_, hq⟩⟩) hlist
        rw [listed_set (by omega)]
        by_cases hji : j = ds.length
        · rw [if_pos hji, decide_eq_true (by omega)]
        · rw [if_neg hji]
          by_cases hjl : j < ds.length
          · rw [hle j hjl, decide_eq_true (by omega)]
          · rw [hnl j (by omega) hj, decide_eq_false (by omega)]
    · have hik : i = k := by
        have hge : k ≤ i := by
          rcases Nat.lt_or_ge i k with hlt | hge
          · rw [hkl i h1, decide_eq_true hlt] at h2'
            cases h2'
          · exact hge
        rcases Nat.lt_or_ge k i with hlt | hge2
        · obtain ⟨w1, w2⟩ := hw4 (by omega)
          obtain ⟨e, he, hbn, hon⟩ := w2 (by omega)
          have h5 := hdone e he hbn
          rw [hkl e.on (by omega), decide_eq_false (by omega)] at h5
          cases h5
        · omega
      subst hik
      rw [wpList_at h1] at hq
      refine wpOp_mono (fun a' w' hq => ⟨by simpa using hs, .inr ⟨i + 1, by omega, by omega, fun j hj => ?_, hq⟩⟩) hq
      rw [listed_set (by omega)]
      by_cases hji : j = i
      · rw [if_pos hji, decide_eq_true (by omega)]
      · rw [if_neg hji, hkl j hj]
        by_cases hjl : j < i
        · rw [decide_eq_true hjl, decide_eq_true (by omega)]
        · rw [decide_eq_false hjl, decide_eq_false (by omega)]
  · rintro listed a w ⟨hs, h⟩ hr
    have hal := ready_some (fun i o ho => (hall i o ho).2.1) hr hs
    rcases h with ⟨hnl, hcl, us, hu, rfl, hJ⟩ | ⟨k, hk1, hk2, hkl, hq⟩
    · have hse : ds.length = ops.size := by
        rcases Nat.lt_or_ge ds.length ops.size with hlt | hge
        · have := hal ds.length hlt
          rw [hnl _ (Nat.le_refl _) hlt] at this
          cases this
        · omega
      have hd2 : donR ds.length listed = fun j => decide (j < ds.length) := by
        funext j
        unfold donR
        by_cases hj : j < ds.length
        · rw [getD_both (by omega) false true, hal j (by omega), Bool.and_true]
        · rw [decide_eq_false hj, Bool.false_and]
      rw [hd2] at hJ
      have hlist := hend us w hu hJ
      rw [List.drop_eq_nil_of_le (by simp; omega)] at hlist
      exact hlist
    · have hse : k = ops.size := by
        rcases Nat.lt_or_ge k ops.size with hlt | hge
        · have := hal k hlt
          rw [hkl _ hlt, decide_eq_false (by omega)] at this
          cases this
        · omega
      rw [List.drop_eq_nil_of_le (by simp; omega)] at hq
      exact hq
  · rw [Array.getD_eq_getD_getElem?, Array.getElem?_replicate, if_pos hjs]
    rfl
  · rw [Array.getD_eq_getD_getElem?, Array.getElem?_replicate, if_pos (by omega)] at hl
    cases hl
  · have hle : ∀ (p : Nat → Bool) n, cntR p n ≤ n := fun p n => by
      induction n with
      | zero => exact Nat.le_refl _
      | succ n ih => rw [cntR]; split <;> omega
    exact hle _ _
end
end Go.Proofs.YtjennlkindbpoaaDoor
