/-
  A REGION THAT DRAWS ITS ORDER, WITH A TAIL: the first operations in whatever order, each with a temporary of its own, by what each of them leaves, in blocks of its own; those behind wait for all of these (at once, or by way of others), and come one behind the other. Conditions: no two of the first have one temporary; none has a guard; the first only add to memory.
-/
import Derived.Test.YtkfcglgikemefaaDoorRg
namespace Go.Proofs.YtkfcglgikemefaaDoor
set_option maxRecDepth 100000
open Go.RowKit
set_option linter.unusedVariables false
/-- For what an operation waits, and these, and so on. -/
def reachT (ops : Array Oper) : Nat → Nat → List Nat
  | 0, _ => []
  | f + 1, i => match ops[i]? with
    | some o => (o.after.toList.filter fun e => Region.binds .any e).flatMap fun e => e.on :: reachT ops f e.on
    | none => []
theorem reachT_done {ops : Array Oper} {D : Nat → Prop} (hc : ∀ i o, D i → ops[i]? = some o → ∀ e ∈ o.after.toList, Region.binds .any e = true → D e.on) : ∀ (f i : Nat) (o : Oper), ops[i]? = some o → (∀ e ∈ o.after.toList, Region.binds .any e = true → D e.on) → ∀ j ∈ reachT ops f i, D j := by
  intro f
  induction f with
  | zero => intro i o _ _ j hj; simp [reachT] at hj
  | succ f ih =>
    intro i o ho hd j hj
    rw [reachT, ho] at hj
    dsimp only at hj
    rw [List.mem_flatMap] at hj
    obtain ⟨e, he, hj⟩ := hj
    rw [List.mem_filter] at he
    have h1 := hd e he.1 he.2
    rcases List.mem_cons.1 hj with rfl | hj
    · exact h1
    · cases ho2 : ops[e.on]? with
      | none =>
        cases f with
        | zero => simp [reachT] at hj
        | succ f => rw [reachT, ho2] at hj; simp at hj
      | some o2 => exact ih e.on o2 ho2 (hc e.on o2 h1 ho2) j hj
/-- Each of the first operations has its own temporary; who waits for whom; each behind waits for all of the first, and for the one ahead. -/
def okTail (ds : List Nat) (ops : Array Oper) : Bool := decide (ds.length ≤ ops.size) && (List.range ops.size).all fun i => match ops[i]? with
  | some o => o.guard.isNone && (o.after.all fun e => !Region.binds .any e || decide (e.on < i)) && (decide (ds.length ≤ i) || o.dst == ds[i]?) && (decide (i < ds.length) || ((List.range ds.length).all (fun j => (reachT ops 6 i).contains j) && (decide (i ≤ ds.length) || o.after.any fun e => Region.binds .any e && e.on + 1 == i)))
  | none => false
section
variable {P : Program} {ops : Array Oper} {Q : Exit → Act → World → Prop}
theorem wpList_at {k : Nat} (h : k < ops.size) {a : Act} {w : World} : wpList P ops Q (ops.toList.drop k) a w = wpOp P ops Q k (wpList P ops Q (ops.toList.drop (k + 1))) a w := by
  have h1 : ops.toList.drop k = ops[k] :: ops.toList.drop (k + 1) := by
    rw [List.drop_eq_getElem_cons (by simpa using h)]
    simp
  rw [h1]
  unfold wpOp
  rw [Array.getElem?_eq_getElem h, wpList]
def TI (S : Nat → Nat → Nat → Value → World → Prop) (ds : List Nat) (W : World) (T : Array Value) (P : Program) (ops : Array Oper) (Q : Exit → Act → World → Prop) (listed : Array Bool) (a : Act) (w : World) : Prop := listed.size = ops.size ∧
  (((∀ j, ds.length ≤ j → j < ops.size → listed.getD j true = false) ∧ (∀ i o, i < ds.length → listed.getD i true = true → ops[i]? = some o → ∀ e ∈ o.after.toList, Region.binds .any e = true → listed.getD e.on true = true) ∧ ∃ (us : List Value) (lo hi : Nat → Nat), us.length = ds.length ∧ a = ⟨putAll T ds us, []⟩ ∧ Below W.heap.size W w ∧ (∀ i, i < ds.length → listed.getD i true = true → W.heap.size ≤ lo i ∧ lo i ≤ hi i ∧ hi i ≤ w.heap.size ∧ S i (lo i) (hi i) (us.getD i undef) w) ∧
      ∀ i j, i < ds.length → j < ds.length → listed.getD i true = true → listed.getD j true = true → i ≠ j → hi i ≤ lo j ∨ hi j ≤ lo i) ∨
   ∃ k, ds.length ≤ k ∧ k ≤ ops.size ∧ (∀ j, j < ops.size → listed.getD j true = decide (j < k)) ∧ wpList P ops Q (ops.toList.drop k) a w)
theorem listed_set {l : Array Bool} {i j : Nat} (hi : i < l.size) (b : Bool) : (l.setIfInBounds i true).getD j b = if j = i then true else l.getD j b := by
  split
  · next h =>
    subst h
    rw [Array.getD_eq_getD_getElem?, Array.getElem?_setIfInBounds_self_of_lt hi]
    rfl
  · next h =>
    rw [Array.getD_eq_getD_getElem?, Array.getElem?_setIfInBounds_ne (by omega), ← Array.getD_eq_getD_getElem?]
theorem wp_region_tail {id : Nat} (S : Nat → Nat → Nat → Value → World → Prop) (ds : List Nat) (W : World) (T : Array Value) (hn : ds.Nodup) (hd : ∀ d ∈ ds, d < T.size) (hm : P.follows .mixedOrders = true) (hops : okTail ds ops = true)
    (hmono : ∀ i x y v w w', Below W.heap.size W w → y ≤ w.heap.size → Below w.heap.size w w' → S i x y v w → S i x y v w')
    (hstep : ∀ i o, ops[i]? = some o → i < ds.length → ∀ (a : Act) (w : World), (∀ t, t ∉ ds → a.tmps[t]? = T[t]?) → (∀ e ∈ o.after.toList, Region.binds .any e = true → ∃ v x y, a.tmps[ds.getD e.on 0]? = some v ∧ S e.on x y v w) → Below W.heap.size W w →
      ∀ K : Act → World → Prop, (∀ v w', Below w.heap.size w w' → S i w.heap.size w'.heap.size v w' → K (a.put o.dst v) w') → Oper.wp P o a w K Q)
    (hend : ∀ (us : List Value) (lo hi : Nat → Nat) (w : World), us.length = ds.length → Below W.heap.size W w → (∀ i, i < ds.length → W.heap.size ≤ lo i ∧ lo i ≤ hi i ∧ hi i ≤ w.heap.size ∧ S i (lo i) (hi i) (us.getD i undef) w) → (∀ i j, i < ds.length → j < ds.length → i ≠ j → hi i ≤ lo j ∨ hi j ≤ lo i) →
      wpList P ops Q (ops.toList.drop ds.length) ⟨putAll T ds us, []⟩ w) :
    (Code.region id ops true).wp P Q ⟨T, []⟩ W := by
  unfold okTail at hops
  rw [Bool.and_eq_true, decide_eq_true_eq] at hops
  obtain ⟨hsz, hall0⟩ := hops
  have hall : ∀ (i : Nat) (o : Oper), ops[i]? = some o → o.guard = none ∧ (∀ e ∈ o.after.toList, Region.binds .any e = true → e.on < i) ∧ (∀ h : i < ds.length, o.dst = some ds[i]) ∧ (ds.length ≤ i → (∀ j, j < ds.length → j ∈ reachT ops 6 i) ∧ (ds.length < i → ∃ e ∈ o.after.toList, Region.binds .any e = true ∧ e.on + 1 = i)) := by
    intro i o ho
    have hi : i < ops.size := (Array.getElem?_eq_some_iff.1 ho).1
    have h1 := List.all_eq_true.1 hall0 i (by simpa using hi)
    rw [ho] at h1
    simp only [Bool.and_eq_true, Bool.or_eq_true, beq_iff_eq, Option.isNone_iff_eq_none, decide_eq_true_eq] at h1
    obtain ⟨⟨⟨h1, h2⟩, h3⟩, h4⟩ := h1
    refine ⟨h1, fun e he hbn => ?_, fun h => ?_, fun h => ?_⟩
    · have h5 := Array.all_eq_true'.1 h2 e (by simpa using he)
      simpa [hbn] using h5
    · rcases h3 with h3 | h3
      · omega
      · rw [h3, List.getElem?_eq_getElem h]
    · rcases h4 with h4 | h4
      · omega
      · refine ⟨fun j hj => ?_, fun hlt => ?_⟩
        · have h5 := List.all_eq_true.1 h4.1 j (by simpa using hj)
          simpa using h5
        · rcases h4.2 with h5 | h5
          · omega
          · obtain ⟨e, he, h6⟩ := Array.any_eq_true'.1 h5
            simp only [Bool.and_eq_true, beq_iff_eq] at h6
            exact ⟨e, by simpa using he, h6.1, h6.2⟩
  have hat : ∀ (us : List Value) (i : Nat) (hi : i < ds.length), us.length = ds.length → (putAll T ds us)[ds[i]]? = some (us.getD i undef) := fun us i hi hu => by
    rw [putAll_at T ds us i hi hu.symm hn (hd _ (List.getElem_mem hi)), List.getD_eq_getElem?_getD, List.getElem?_eq_getElem (by omega)]
    rfl
  refine wp_region_any hm ?_
  refine wpAny_inv (I := TI S ds W T P ops Q) (fun _ _ _ h => h.1) ?_ ?_ _ _ _ _ ⟨by simp, .inl ⟨fun j hj hjs => ?_, fun i o hi hl ho => ?_, ds.map (fun d => T.getD d undef), fun _ => 0, fun _ => 0, by simp, by rw [putAll_id ds T hn hd], (Below.refl _ _).drew, fun i hi h => ?_, fun i j hi _ h => ?_⟩⟩ ?_
  · rintro listed a w ⟨hs, h⟩ i hi
    obtain ⟨h1, h2, h3⟩ := ready_of hi
    have ho : ops[i]? = some ops[i] := Array.getElem?_eq_getElem h1
    obtain ⟨hg, hw3, hw1, hw4⟩ := hall i _ ho
    have h2' : listed.getD i true = false := h2
    have hdone : ∀ e ∈ ops[i].after.toList, Region.binds .any e = true → listed.getD e.on true = true := fun e he hbn => by
      have := hw3 e he hbn
      rw [getD_both (by omega) true false]
      exact h3 _ ho e he hbn
    rcases h with ⟨hnl, hcl, us, lo, hi', hu, rfl, hbl, hS, hdj⟩ | ⟨k, hk1, hk2, hkl, hq⟩
    · by_cases hv : i < ds.length
      · have o1 := hw1 hv
        unfold wpOp
        rw [ho]
        have hw : Region.wanted ops[i] (yielded ops (⟨putAll T ds us, []⟩ : Act).tmps) = true := by simp [Region.wanted, hg]
        simp only [hw, if_true]
        refine .inl (hstep i _ ho hv ⟨putAll T ds us, []⟩ w (fun t ht => putAll_far _ _ _ _ ht) (fun e he hbn => ?_) hbl _ fun v w' hb' hv' => ?_)
        · have hlt := hw3 e he hbn
          refine ⟨us.getD e.on undef, lo e.on, hi' e.on, ?_, (hS e.on (by omega) (hdone e he hbn)).2.2.2⟩
          have hge : ds.getD e.on 0 = ds[e.on]'(by omega) := by rw [List.getD_eq_getElem?_getD, List.getElem?_eq_getElem (show e.on < ds.length by omega)]; rfl
          rw [hge]
          exact hat us e.on (by omega) hu
        · refine ⟨by simpa using hs, .inl ⟨fun j hj hjs => ?_, fun i2 o2 hi2 hl2 ho2 e he hbn => ?_, us.set i v, (fun j => if j = i then w.heap.size else lo j), (fun j => if j = i then w'.heap.size else hi' j), by simpa using hu, ?_, hbl.trans (hb'.mono hbl.size), fun j hj hlj => ?_, fun j1 j2 hj1 hj2 hl1 hl2 hne => ?_⟩⟩
          · rw [listed_set (by omega), if_neg (by omega)]
            exact hnl j hj hjs
          · rw [listed_set (by omega)]
            split
            · rfl
            · by_cases h2i : i2 = i
              · subst h2i
                rw [ho] at ho2
                cases ho2
                exact hdone e he hbn
              · rw [listed_set (by omega), if_neg h2i] at hl2
                exact hcl i2 o2 hi2 hl2 ho2 e he hbn
          · rw [o1, putAll_set ds us T i v hv hu.symm hn]
            rfl
          · by_cases hji : j = i
            · subst hji
              rw [List.getD_eq_getElem?_getD, List.getElem?_set_self (by omega)]
              simp only [if_true]
              exact ⟨hbl.size, hb'.size, Nat.le_refl _, hv'⟩
            · rw [List.getD_eq_getElem?_getD, List.getElem?_set_ne (by omega), ← List.getD_eq_getElem?_getD]
              rw [listed_set (by omega), if_neg hji] at hlj
              obtain ⟨s1, s2, s3, s4⟩ := hS j hj hlj
              simp only [if_neg hji]
              exact ⟨s1, s2, Nat.le_trans s3 hb'.size, hmono j _ _ _ w w' hbl s3 hb' s4⟩
          · by_cases e1 : j1 = i
            · have e2 : j2 ≠ i := by omega
              rw [listed_set (by omega), if_neg e2] at hl2
              obtain ⟨s1, s2, s3, s4⟩ := hS j2 hj2 hl2
              simp only [if_pos e1, if_neg e2]
              exact .inr s3
            · rw [listed_set (by omega), if_neg e1] at hl1
              obtain ⟨s1, s2, s3, s4⟩ := hS j1 hj1 hl1
              by_cases e2 : j2 = i
              · simp only [if_neg e1, if_pos e2]
                exact .inl s3
              · rw [listed_set (by omega), if_neg e2] at hl2
                simp only [if_neg e1, if_neg e2]
                exact hdj j1 j2 hj1 hj2 hl1 hl2 hne
      · obtain ⟨w1, w2⟩ := hw4 (by omega)
        have hii : i = ds.length := by
          rcases Nat.lt_or_ge ds.length i with hlt | hge
          · obtain ⟨e, he, hbn, hon⟩ := w2 hlt
            have h5 := hdone e he hbn
            rw [hnl e.on (by omega) (by omega)] at h5
            cases h5
          · omega
        subst hii
        have hle : ∀ j, j < ds.length → listed.getD j true = true := fun j hj => by
          refine (reachT_done (D := fun j => j < ds.length ∧ listed.getD j true = true) (fun i2 o2 h h2 e he hbn => ⟨?_, hcl i2 o2 h.1 h.2 h2 e he hbn⟩) 6 ds.length _ ho (fun e he hbn => ⟨hw3 e he hbn, hdone e he hbn⟩) j (w1 j hj)).2
          have := (hall i2 o2 h2).2.1 e he hbn
          have := h.1
          omega
        have hlist := hend us lo hi' w hu hbl (fun j hj => hS j hj (hle j hj)) fun j1 j2 h1 h2 hne => hdj j1 j2 h1 h2 (hle j1 h1) (hle j2 h2) hne
        rw [wpList_at h1] at hlist
        refine wpOp_mono (fun a' w' hq => ⟨by simpa using hs, .inr ⟨ds.length + 1, by omega, by omega, fun j hj => ?_, hq⟩⟩) hlist
        rw [listed_set (by omega)]
        by_cases hji : j = ds.length
        · rw [if_pos hji, decide_eq_true (by omega)]
        · rw [if_neg hji]
          by_cases hjl : j < ds.length
          · rw [hle j hjl, decide_eq_true (by omega)]
          · rw [hnl j (by omega) hj, decide_eq_false (by omega)]
    · have hik : i = k := by
        have hge : k ≤ i := by
          rcases Nat.lt_or_ge i k with hlt | hge
          · rw [hkl i h1, decide_eq_true hlt] at h2'
            cases h2'
          · exact hge
        rcases Nat.lt_or_ge k i with hlt | hge2
        · obtain ⟨w1, w2⟩ := hw4 (by omega)
          obtain ⟨e, he, hbn, hon⟩ := w2 (by omega)
          have h5 := hdone e he hbn
          rw [hkl e.on (by omega), decide_eq_false (by omega)] at h5
          cases h5
        · omega
      subst hik
      rw [wpList_at h1] at hq
      refine wpOp_mono (fun a' w' hq => ⟨by simpa using hs, .inr ⟨i + 1, by omega, by omega, fun j hj => ?_, hq⟩⟩) hq
      rw [listed_set (by omega)]
      by_cases hji : j = i
      · rw [if_pos hji, decide_eq_true (by omega)]
      · rw [if_neg hji, hkl j hj]
        by_cases hjl : j < i
        · rw [decide_eq_true hjl, decide_eq_true (by omega)]
        · rw [decide_eq_false hjl, decide_eq_false (by omega)]
  · rintro listed a w ⟨hs, h⟩ hr
    have hal := ready_some (fun i o ho => (hall i o ho).2.1) hr hs
    rcases h with ⟨hnl, hcl, us, lo, hi', hu, rfl, hbl, hS, hdj⟩ | ⟨k, hk1, hk2, hkl, hq⟩
    · have hse : ds.length = ops.size := by
        rcases Nat.lt_or_ge ds.length ops.size with hlt | hge
        · have := hal ds.length hlt
          rw [hnl _ (Nat.le_refl _) hlt] at this
          cases this
        · omega
      have hlist := hend us lo hi' w hu hbl (fun j hj => hS j hj (hal j (by omega))) fun j1 j2 h1 h2 hne => hdj j1 j2 h1 h2 (hal j1 (by omega)) (hal j2 (by omega)) hne
      rw [List.drop_eq_nil_of_le (by simp; omega)] at hlist
      exact hlist
    · have hse : k = ops.size := by
        rcases Nat.lt_or_ge k ops.size with hlt | hge
        · have := hal k hlt
          rw [hkl _ hlt, decide_eq_false (by omega)] at this
          cases this
        · omega
      rw [List.drop_eq_nil_of_le (by simp; omega)] at hq
      exact hq
  · rw [Array.getD_eq_getD_getElem?, Array.getElem?_replicate, if_pos hjs]
    rfl
  · rw [Array.getD_eq_getD_getElem?, Array.getElem?_replicate, if_pos (by omega)] at hl
    cases hl
  · rw [Array.getD_eq_getD_getElem?, Array.getElem?_replicate, if_pos (by omega)] at h
    cases h
  · rw [Array.getD_eq_getD_getElem?, Array.getElem?_replicate, if_pos (by omega)] at h
    cases h
  · have hle : ∀ (p : Nat → Bool) n, cntR p n ≤ n := fun p n => by
      induction n with
      | zero => exact Nat.le_refl _
      | succ n ih => rw [cntR]; split <;> omega
    exact hle _ _
end
end Go.Proofs.YtkfcglgikemefaaDoor
