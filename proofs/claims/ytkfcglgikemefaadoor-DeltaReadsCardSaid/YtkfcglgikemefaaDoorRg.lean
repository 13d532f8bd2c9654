/-
  A REGION THAT DRAWS ITS ORDER, BY WHAT EACH OPERATION LEAVES: as XRi's, but with guards, temporaries in whatever places, and a last operation that waits for all. Conditions: no two operations have one temporary; memory only grows, but for the last operation.
-/
import Derived.Test.YtkfcglgikemefaaDoorRi
namespace Go.Proofs.YtkfcglgikemefaaDoor
set_option maxRecDepth 100000
open Go.RowKit
set_option linter.unusedVariables false
/-- The temporaries ds of T, set. -/
def putAll : Array Value → List Nat → List Value → Array Value
  | T, d :: ds, u :: us => putAll (T.setIfInBounds d u) ds us
  | T, _, _ => T
theorem putAll_size : ∀ (ds : List Nat) (us : List Value) (T : Array Value), (putAll T ds us).size = T.size := by
  intro ds
  induction ds with
  | nil => intro us T; cases us <;> rfl
  | cons d ds ih => intro us T; cases us with
    | nil => rfl
    | cons u us => rw [putAll, ih]; simp
theorem putAll_comm : ∀ (ds : List Nat) (us : List Value) (T : Array Value) (d : Nat) (v : Value), d ∉ ds → putAll (T.setIfInBounds d v) ds us = (putAll T ds us).setIfInBounds d v := by
  intro ds
  induction ds with
  | nil => intro us T d v _; cases us <;> rfl
  | cons e ds ih => intro us T d v h; cases us with
    | nil => rfl
    | cons u us =>
      rw [putAll, putAll, Array.setIfInBounds_comm _ _ (by intro hc; exact h (by rw [hc]; exact List.mem_cons_self)), ih _ _ _ _ (fun hc => h (List.mem_cons_of_mem _ hc))]
theorem putAll_set : ∀ (ds : List Nat) (us : List Value) (T : Array Value) (i : Nat) (v : Value) (h : i < ds.length), ds.length = us.length → ds.Nodup → putAll T ds (us.set i v) = (putAll T ds us).setIfInBounds ds[i] v := by
  intro ds
  induction ds with
  | nil => intro us T i v h; exact absurd h (by simp)
  | cons d ds ih =>
    intro us T i v h hl hn
    cases us with
    | nil => cases hl
    | cons u us =>
      rw [List.nodup_cons] at hn
      cases i with
      | zero =>
        rw [List.set_cons_zero, putAll, putAll, List.getElem_cons_zero, ← putAll_comm _ _ _ _ _ hn.1]
        simp
      | succ i =>
        rw [List.set_cons_succ, putAll, putAll, ih _ _ _ _ (by simpa using h) (by simpa using hl) hn.2, List.getElem_cons_succ]
theorem putAll_far : ∀ (ds : List Nat) (us : List Value) (T : Array Value) (t : Nat), t ∉ ds → (putAll T ds us)[t]? = T[t]? := by
  intro ds
  induction ds with
  | nil => intro us T t _; cases us <;> rfl
  | cons d ds ih => intro us T t h; cases us with
    | nil => rfl
    | cons u us =>
      rw [putAll, ih _ _ _ (fun hc => h (List.mem_cons_of_mem _ hc)), Array.getElem?_setIfInBounds_ne (by intro hc; exact h (by rw [hc]; exact List.mem_cons_self))]
theorem putAll_at (T : Array Value) (ds : List Nat) (us : List Value) (i : Nat) (h : i < ds.length) (hl : ds.length = us.length) (hn : ds.Nodup) (hT : ds[i] < T.size) : (putAll T ds us)[ds[i]]? = us[i]? := by
  have h1 := putAll_set ds us T i (us[i]'(by omega)) h hl hn
  rw [List.set_getElem_self] at h1
  rw [h1, Array.getElem?_setIfInBounds_self_of_lt (by rw [putAll_size]; exact hT), List.getElem?_eq_getElem (by omega)]
theorem putAll_id : ∀ (ds : List Nat) (T : Array Value), ds.Nodup → (∀ d ∈ ds, d < T.size) → putAll T ds (ds.map fun d => T.getD d undef) = T := by
  intro ds
  induction ds with
  | nil => intro T _ _; rfl
  | cons d ds ih =>
    intro T hn hd
    have h0 := hd d List.mem_cons_self
    have hs : T.setIfInBounds d (T.getD d undef) = T := by
      apply Array.ext_getElem?
      intro i
      by_cases hi : i = d
      · subst hi
        rw [Array.getElem?_setIfInBounds_self_of_lt h0, Array.getD_eq_getD_getElem?, Array.getElem?_eq_getElem h0]
        rfl
      · rw [Array.getElem?_setIfInBounds_ne (fun hc => hi hc.symm)]
    rw [List.nodup_cons] at hn
    rw [List.map_cons, putAll, hs]
    exact ih T hn.2 fun x hx => hd x (List.mem_cons_of_mem _ hx)
/-- Each operation but the last has its own temporary; who waits for whom; the last waits for all. -/
def okGen (ds : List Nat) (ops : Array Oper) : Bool := ops.size == ds.length + 1 && ((List.range ds.length).all fun i => match ops[i]? with
  | some o => o.dst == ds[i]? && o.after.all fun e => !Region.binds .any e || decide (e.on < i)
  | none => false) && match ops[ds.length]? with
  | some o => o.dst.isNone && o.guard.isNone && (o.after.all fun e => !Region.binds .any e || decide (e.on < ds.length)) && (List.range ds.length).all fun j => o.after.any fun e => Region.binds .any e && e.on == j
  | none => false
section
variable {P : Program} {ops : Array Oper} {Q : Exit → Act → World → Prop}
theorem getD_both {l : Array Bool} {i : Nat} (h : i < l.size) (b c : Bool) : l.getD i b = l.getD i c := by
  rw [Array.getD_eq_getD_getElem?, Array.getD_eq_getD_getElem?, Array.getElem?_eq_getElem h]
  rfl
def GI (S : Nat → Value → World → Prop) (ds : List Nat) (W : World) (T : Array Value) (ops : Array Oper) (Q : Exit → Act → World → Prop) (listed : Array Bool) (a : Act) (w : World) : Prop := listed.size = ops.size ∧ ((listed.getD ds.length true = false ∧ ∃ us : List Value, us.length = ds.length ∧ a = ⟨putAll T ds us, []⟩ ∧ Below W.heap.size W w ∧ ∀ i, i < ds.length → listed.getD i true = true → S i (us.getD i undef) w) ∨ ((∀ j, j < ops.size → listed.getD j true = true) ∧ Q .normal a w))
theorem wp_region_gen {id : Nat} (S : Nat → Value → World → Prop) (ds : List Nat) (W : World) (T : Array Value) (hn : ds.Nodup) (hd : ∀ d ∈ ds, d < T.size) (hm : P.follows .mixedOrders = true) (hops : okGen ds ops = true)
    (hmono : ∀ i v w w', Below W.heap.size W w → Below w.heap.size w w' → S i v w → S i v w')
    (hstep : ∀ i o, ops[i]? = some o → i < ds.length → ∀ (a : Act) (w : World), (∀ t, t ∉ ds → a.tmps[t]? = T[t]?) → (∀ e ∈ o.after.toList, Region.binds .any e = true → ∃ v, a.tmps[ds.getD e.on 0]? = some v ∧ S e.on v w) → Below W.heap.size W w →
      ∀ K : Act → World → Prop, (∀ v w', Below w.heap.size w w' → S i v w' → K (a.put o.dst v) w') → if Region.wanted o (yielded ops a.tmps) = true then Oper.wp P o a w K Q else K (a.put o.dst undef) w)
    (hlast : ∀ o us w, ops[ds.length]? = some o → us.length = ds.length → Below W.heap.size W w → (∀ i, i < ds.length → S i (us.getD i undef) w) → Oper.wp P o ⟨putAll T ds us, []⟩ w (fun a w => Q .normal a w) Q) :
    (Code.region id ops true).wp P Q ⟨T, []⟩ W := by
  unfold okGen at hops
  simp only [Bool.and_eq_true, beq_iff_eq] at hops
  obtain ⟨⟨hsz, hbase⟩, hla⟩ := hops
  have hb : ∀ (i : Nat) (o : Oper) (hi : i < ds.length), ops[i]? = some o → o.dst = some ds[i] ∧ ∀ e ∈ o.after.toList, Region.binds .any e = true → e.on < i := by
    intro i o hi ho
    have h1 := List.all_eq_true.1 hbase i (by simpa using hi)
    rw [ho] at h1
    simp only [Bool.and_eq_true, beq_iff_eq] at h1
    refine ⟨by rw [h1.1, List.getElem?_eq_getElem hi], fun e he hbn => ?_⟩
    have h2 := Array.all_eq_true'.1 h1.2 e (by simpa using he)
    simpa [hbn] using h2
  have hL : ∃ o, ops[ds.length]? = some o ∧ o.dst = none ∧ o.guard = none ∧ (∀ e ∈ o.after.toList, Region.binds .any e = true → e.on < ds.length) ∧ ∀ j, j < ds.length → ∃ e ∈ o.after.toList, Region.binds .any e = true ∧ e.on = j := by
    cases ho : ops[ds.length]? with
    | none => rw [ho] at hla; cases hla
    | some o =>
      rw [ho] at hla
      simp only [Bool.and_eq_true, Option.isNone_iff_eq_none] at hla
      obtain ⟨⟨⟨h1, h2⟩, h3⟩, h4⟩ := hla
      refine ⟨o, rfl, h1, h2, fun e he hbn => ?_, fun j hj => ?_⟩
      · have h5 := Array.all_eq_true'.1 h3 e (by simpa using he)
        simpa [hbn] using h5
      · have h5 := List.all_eq_true.1 h4 j (by simpa using hj)
        obtain ⟨e, he, h6⟩ := Array.any_eq_true'.1 h5
        simp only [Bool.and_eq_true, beq_iff_eq] at h6
        exact ⟨e, by simpa using he, h6.1, h6.2⟩
  obtain ⟨oL, hoL, d1, d2, d3, d4⟩ := hL
  have hall : ∀ (i : Nat) (o : Oper), ops[i]? = some o → ∀ e ∈ o.after.toList, Region.binds .any e = true → e.on < i := by
    intro i o ho e he hbn
    have hi : i < ops.size := (Array.getElem?_eq_some_iff.1 ho).1
    by_cases hv : i < ds.length
    · exact (hb i o hv ho).2 e he hbn
    · obtain rfl : i = ds.length := by omega
      rw [hoL] at ho
      cases ho
      exact d3 e he hbn
  have hat : ∀ (us : List Value) (i : Nat) (hi : i < ds.length), us.length = ds.length → (putAll T ds us)[ds[i]]? = some (us.getD i undef) := fun us i hi hu => by
    rw [putAll_at T ds us i hi hu.symm hn (hd _ (List.getElem_mem hi)), List.getD_eq_getElem?_getD, List.getElem?_eq_getElem (by omega)]
    rfl
  refine wp_region_any hm ?_
  refine wpAny_inv (I := GI S ds W T ops Q) (fun _ _ _ h => h.1) ?_ ?_ _ _ _ _ ⟨by simp, .inl ⟨by simp [hsz], ds.map (fun d => T.getD d undef), by simp, by rw [putAll_id ds T hn hd], (Below.refl _ _).drew, fun i hi h => ?_⟩⟩ ?_
  · rintro listed a w ⟨hs, h⟩ i hi
    obtain ⟨h1, h2, h3⟩ := ready_of hi
    rcases h with ⟨hnl, us, hu, rfl, hbl, hS⟩ | ⟨ha, _⟩
    · have ho : ops[i]? = some ops[i] := Array.getElem?_eq_getElem h1
      unfold wpOp
      rw [ho]
      by_cases hv : i < ds.length
      · obtain ⟨o1, o3⟩ := hb i _ hv ho
        have hnext : ∀ (v : Value) (w' : World), Below w.heap.size w w' → S i v w' → GI S ds W T ops Q (listed.setIfInBounds i true) ((⟨putAll T ds us, []⟩ : Act).put ops[i].dst v) w' := fun v w' hb' hv' => by
          refine ⟨by simpa using hs, .inl ⟨?_, us.set i v, by simpa using hu, ?_, hbl.trans (hb'.mono hbl.size), fun j hj hlj => ?_⟩⟩
          · rw [Array.getD_eq_getD_getElem?, Array.getElem?_setIfInBounds_ne (by omega), ← Array.getD_eq_getD_getElem?]
            exact hnl
          · rw [o1, putAll_set ds us T i v hv hu.symm hn]
            rfl
          · by_cases hji : j = i
            · subst hji
              rw [List.getD_eq_getElem?_getD, List.getElem?_set_self (by omega)]
              exact hv'
            · rw [List.getD_eq_getElem?_getD, List.getElem?_set_ne (by omega), ← List.getD_eq_getElem?_getD]
              refine hmono j _ w w' hbl hb' (hS j hj ?_)
              rw [Array.getD_eq_getD_getElem?, Array.getElem?_setIfInBounds_ne (by omega), ← Array.getD_eq_getD_getElem?] at hlj
              exact hlj
        have hst := hstep i _ ho hv ⟨putAll T ds us, []⟩ w (fun t ht => putAll_far _ _ _ _ ht) (fun e he hbn => ?_) hbl (fun a' w' => GI S ds W T ops Q (listed.setIfInBounds i true) a' w') hnext
        · by_cases hw : Region.wanted ops[i] (yielded ops (putAll T ds us)) = true
          · have hst' : (if Region.wanted ops[i] (yielded ops (⟨putAll T ds us, []⟩ : Act).tmps) = true then _ else _) := hst
            rw [if_pos hw] at hst'
            simp only [hw, if_true]
            exact .inl hst'
          · have hst' : (if Region.wanted ops[i] (yielded ops (⟨putAll T ds us, []⟩ : Act).tmps) = true then _ else _) := hst
            rw [if_neg hw] at hst'
            simp only [hw]
            exact hst'
        · have hlt := o3 e he hbn
          refine ⟨us.getD e.on undef, ?_, hS e.on (by omega) ?_⟩
          · have hge : ds.getD e.on 0 = ds[e.on]'(by omega) := by rw [List.getD_eq_getElem?_getD, List.getElem?_eq_getElem (show e.on < ds.length by omega)]; rfl
            rw [hge]
            exact hat us e.on (by omega) hu
          · rw [getD_both (by omega) true false]
            exact h3 _ ho e he hbn
      · obtain rfl : i = ds.length := by omega
        have hoo : ops[ds.length] = oL := by rw [hoL] at ho; exact (Option.some.inj ho).symm
        have hw : Region.wanted ops[ds.length] (yielded ops (⟨putAll T ds us, []⟩ : Act).tmps) = true := by simp [Region.wanted, hoo, d2]
        simp only [hw, if_true]
        have hle : ∀ j, j < ds.length → listed.getD j true = true := fun j hj => by
          obtain ⟨e, he, hbn, rfl⟩ := d4 j hj
          rw [getD_both (by omega) true false]
          exact h3 _ hoL e he hbn
        refine .inl (Oper.wp_mono (fun a' w' hq => ?_) (hlast _ us w ho hu hbl fun j hj => hS j hj (hle j hj)))
        refine ⟨by simpa using hs, .inr ⟨fun j hj => ?_, hq⟩⟩
        by_cases hjl : j = ds.length
        · subst hjl
          rw [Array.getD_eq_getD_getElem?, Array.getElem?_setIfInBounds_self_of_lt (by omega)]
          rfl
        · rw [Array.getD_eq_getD_getElem?, Array.getElem?_setIfInBounds_ne (by omega), ← Array.getD_eq_getD_getElem?]
          exact hle j (by omega)
    · rw [ha i h1] at h2
      cases h2
  · rintro listed a w ⟨hs, h⟩ hr
    rcases h with ⟨hnl, _⟩ | ⟨_, hq⟩
    · have := ready_some hall hr hs ds.length (by omega)
      rw [this] at hnl
      cases hnl
    · exact hq
  · rw [Array.getD_eq_getD_getElem?, Array.getElem?_replicate, if_pos (by omega)] at h
    cases h
  · have hle : ∀ (p : Nat → Bool) n, cntR p n ≤ n := fun p n => by
      induction n with
      | zero => exact Nat.le_refl _
      | succ n ih => rw [cntR]; split <;> omega
    exact hle _ _
end
end Go.Proofs.YtkfcglgikemefaaDoor
