/-
  A REGION THAT DRAWS ITS ORDER AND WHOSE VALUES ARE FIXED: if each operation but the last, behind those that it waits for, leaves one value, whatever else was done, and memory only grows; and the last, that waits for all, does what it does: then so the region, in whatever order. Conditions: each operation but the last has a temporary of its own, one behind the other; no guard. (Inside a fence, a round of a loop over an iterator too.)
-/
import Derived.Test.YtfbnigikofidoaaDoorRi
import Derived.OrdersIn
import Derived.RangeFuncCalls
namespace Go.Proofs.YtfbnigikofidoaaDoor
set_option maxRecDepth 100000
open Go.RowKit
set_option linter.unusedVariables false
section
variable {F : Fence} {n : Nat} {P : Program} {ops : Array Oper} {Q : Exit → Act → World → Prop} {md : Region.Mode}
theorem wpAnyIn_inv {I : Array Bool → Act → World → Prop} (hsz : ∀ listed a w, I listed a w → listed.size = ops.size)
    (hstep : ∀ listed a w, I listed a w → ∀ i ∈ Region.ready md ops listed, wpOpIn F n P ops Q i (fun a' w' => I (listed.setIfInBounds i true) a' w') a w)
    (hend : ∀ listed a w, I listed a w → Region.ready md ops listed = [] → Q .normal a w) :
    ∀ (fuel : Nat) (listed : Array Bool) (a : Act) (w : World), I listed a w → cntR (fun j => !listed.getD j true) ops.size ≤ fuel → wpAnyIn F n P md ops Q fuel listed a w := by
  intro fuel
  induction fuel with
  | zero =>
    intro listed a w h hc
    have hr : Region.ready md ops listed = [] := ready_none fun j hj => by
      have := cntR_zero _ _ (Nat.le_zero.1 hc) j hj
      simpa using this
    exact ⟨hr, hend _ _ _ h hr⟩
  | succ fuel ih =>
    intro listed a w h hc
    refine ⟨hend _ _ _ h, fun i hi => wpOpIn_mono (fun a' w' h' => ih _ a' w' h' ?_) (hstep _ _ _ h i hi)⟩
    obtain ⟨h1, h2, _⟩ := ready_of hi
    have hs := hsz _ _ _ h
    have := cntR_less (fun j => !listed.getD j true) (fun j => !(listed.setIfInBounds i true).getD j true) i ops.size h1 (fun j hj => by
      show (!(listed.setIfInBounds i true).getD j true) = !listed.getD j true
      rw [Array.getD_eq_getD_getElem?, Array.getD_eq_getD_getElem?, Array.getElem?_setIfInBounds_ne (by omega)]) (by simpa using h2) (by
      show (!(listed.setIfInBounds i true).getD i true) = false
      rw [Array.getD_eq_getD_getElem?, Array.getElem?_setIfInBounds_self_of_lt (by omega)]
      rfl)
    omega
/-- Each operation but the last has a temporary of its own, and waits for such alone as stand ahead; the last has none, and waits for all. -/
def okDet (p L : Nat) (ops : Array Oper) : Bool := ops.size == L + 1 && ((List.range L).all fun i => match ops[i]? with
  | some o => o.dst == some (p + i) && o.guard.isNone && o.after.all fun e => !Region.binds .any e || decide (e.on < i)
  | none => false) && match ops[L]? with
  | some o => o.dst.isNone && o.guard.isNone && (o.after.all fun e => !Region.binds .any e || decide (e.on < L)) && (List.range L).all fun j => o.after.any fun e => Region.binds .any e && e.on == j
  | none => false
theorem getD_none {l : Array Bool} {i : Nat} (h : i < l.size) (b c : Bool) : l.getD i b = l.getD i c := by
  rw [Array.getD_eq_getD_getElem?, Array.getD_eq_getD_getElem?, Array.getElem?_eq_getElem h]
  rfl
theorem wpIn_region_det {id : Nat} (vs : List Value) (W : World) (T : Array Value) (p : Nat) (hp : p + vs.length ≤ T.size) (hm : P.follows .mixedOrders = true) (hops : okDet p vs.length ops = true)
    (hstep : ∀ i o, ops[i]? = some o → i < vs.length → ∀ (a : Act) (w : World), (∀ t, t < p → a.eval (.tmp t) = T.getD t undef) → (∀ e ∈ o.after.toList, Region.binds .any e = true → a.eval (.tmp (p + e.on)) = vs.getD e.on undef) → Below W.heap.size W w →
      ∀ K : Act → World → Prop, (∀ w', Below w.heap.size w w' → K (a.put o.dst (vs.getD i undef)) w') → Oper.wpIn F n P o a w K Q)
    (hlast : ∀ o, ops[vs.length]? = some o → ∀ w, Below W.heap.size W w → Oper.wpIn F n P o (fr (T.toList.take p) vs (T.toList.drop (p + vs.length))) w (fun a w => Q .normal a w) Q) :
    (Code.region id ops true).wpIn F n P Q ⟨T, []⟩ W := by
  have hl : (T.toList.take p).length = p := by simp; omega
  have hfr : (⟨T, []⟩ : Act) = fr (T.toList.take p) ((T.toList.drop p).take vs.length) (T.toList.drop (p + vs.length)) := by
    unfold fr
    congr 1
    apply Array.ext'
    rw [List.toList_toArray, List.append_assoc, ← List.drop_drop, List.take_append_drop, List.take_append_drop]
  unfold okDet at hops
  simp only [Bool.and_eq_true, beq_iff_eq] at hops
  obtain ⟨⟨hsz, hbase⟩, hla⟩ := hops
  have hb : ∀ i o, i < vs.length → ops[i]? = some o → o.dst = some (p + i) ∧ o.guard = none ∧ ∀ e ∈ o.after.toList, Region.binds .any e = true → e.on < i := by
    intro i o hi ho
    have h1 := List.all_eq_true.1 hbase i (by simpa using hi)
    rw [ho] at h1
    simp only [Bool.and_eq_true, beq_iff_eq, Option.isNone_iff_eq_none] at h1
    refine ⟨h1.1.1, h1.1.2, fun e he hbn => ?_⟩
    have h2 := Array.all_eq_true'.1 h1.2 e (by simpa using he)
    simpa [hbn] using h2
  have hL : ∃ o, ops[vs.length]? = some o ∧ o.dst = none ∧ o.guard = none ∧ (∀ e ∈ o.after.toList, Region.binds .any e = true → e.on < vs.length) ∧ ∀ j, j < vs.length → ∃ e ∈ o.after.toList, Region.binds .any e = true ∧ e.on = j := by
    cases ho : ops[vs.length]? with
    | none => rw [ho] at hla; cases hla
    | some o =>
      rw [ho] at hla
      simp only [Bool.and_eq_true, Option.isNone_iff_eq_none] at hla
      obtain ⟨⟨⟨h1, h2⟩, h3⟩, h4⟩ := hla
      refine ⟨o, rfl, h1, h2, fun e he hbn => ?_, fun j hj => ?_⟩
      · have h5 := Array.all_eq_true'.1 h3 e (by simpa using he)
        simpa [hbn] using h5
      · have h5 := List.all_eq_true.1 h4 j (by simpa using hj)
        obtain ⟨e, he, h6⟩ := Array.any_eq_true'.1 h5
        simp only [Bool.and_eq_true, beq_iff_eq] at h6
        exact ⟨e, by simpa using he, h6.1, h6.2⟩
  obtain ⟨oL, hoL, d1, d2, d3, d4⟩ := hL
  have hall : ∀ i o, ops[i]? = some o → ∀ e ∈ o.after.toList, Region.binds .any e = true → e.on < i := by
    intro i o ho e he hbn
    have hi : i < ops.size := (Array.getElem?_eq_some_iff.1 ho).1
    by_cases hv : i < vs.length
    · exact (hb i o hv ho).2.2 e he hbn
    · obtain rfl : i = vs.length := by omega
      rw [hoL] at ho
      cases ho
      exact d3 e he hbn
  rw [hfr]
  refine wpIn_region_any hm ?_
  refine wpAnyIn_inv (I := fun listed a w => listed.size = ops.size ∧ ((listed.getD vs.length true = false ∧ ∃ us : List Value, us.length = vs.length ∧ a = fr (T.toList.take p) us (T.toList.drop (p + vs.length)) ∧ Below W.heap.size W w ∧ ∀ i, i < vs.length → listed.getD i true = true → us.getD i undef = vs.getD i undef) ∨ ((∀ j, j < ops.size → listed.getD j true = true) ∧ Q .normal a w))) (fun _ _ _ h => h.1) ?_ ?_ _ _ _ _ ⟨by simp, .inl ⟨by simp [hsz], _, by simp; omega, rfl, (Below.refl _ _).drew, fun i hi h => ?_⟩⟩ ?_
  · rintro listed a w ⟨hs, h⟩ i hi
    obtain ⟨h1, h2, h3⟩ := ready_of hi
    rcases h with ⟨hn, us, hu, rfl, hbl, hS⟩ | ⟨ha, _⟩
    · have ho : ops[i]? = some ops[i] := Array.getElem?_eq_getElem h1
      unfold wpOpIn
      rw [ho]
      by_cases hv : i < vs.length
      · obtain ⟨o1, o2, o3⟩ := hb i _ hv ho
        have hw : Region.wanted ops[i] (yielded ops (fr (T.toList.take p) us (T.toList.drop (p + vs.length))).tmps) = true := by simp [Region.wanted, o2]
        simp only [hw, if_true]
        refine hstep i _ ho hv _ w (fun t ht => ?_) (fun e he hbn => ?_) hbl _ fun w' hb' => ?_
        · rw [fr_pre _ _ _ _ (by omega), List.getD_eq_getElem?_getD, List.getElem?_take_of_lt ht, Array.getD_eq_getD_getElem?]
          simp
        · have hlt := o3 e he hbn
          have he2 := fr_eval (T.toList.take p) us (T.toList.drop (p + vs.length)) e.on (by omega)
          rw [hl] at he2
          rw [he2]
          refine hS e.on (by omega) ?_
          rw [getD_none (by omega) true false]
          exact h3 _ ho e he hbn
        · have hput := fr_put (T.toList.take p) us (T.toList.drop (p + vs.length)) i (vs.getD i undef) (by omega)
          rw [hl] at hput
          rw [o1, hput]
          refine ⟨by simpa using hs, .inl ⟨?_, us.set i (vs.getD i undef), by simpa using hu, rfl, hbl.trans (hb'.mono hbl.size), fun j hj hlj => ?_⟩⟩
          · rw [Array.getD_eq_getD_getElem?, Array.getElem?_setIfInBounds_ne (by omega), ← Array.getD_eq_getD_getElem?]
            exact hn
          · by_cases hji : j = i
            · subst hji
              rw [List.getD_eq_getElem?_getD, List.getElem?_set_self (by omega)]
              rfl
            · rw [List.getD_eq_getElem?_getD, List.getElem?_set_ne (by omega), ← List.getD_eq_getElem?_getD]
              refine hS j hj ?_
              rw [Array.getD_eq_getD_getElem?, Array.getElem?_setIfInBounds_ne (by omega), ← Array.getD_eq_getD_getElem?] at hlj
              exact hlj
      · obtain rfl : i = vs.length := by omega
        have hoo : ops[vs.length] = oL := by rw [hoL] at ho; exact (Option.some.inj ho).symm
        have hw : Region.wanted ops[vs.length] (yielded ops (fr (T.toList.take p) us (T.toList.drop (p + vs.length))).tmps) = true := by simp [Region.wanted, hoo, d2]
        simp only [hw, if_true]
        have hle : ∀ j, j < vs.length → listed.getD j true = true := fun j hj => by
          obtain ⟨e, he, hbn, rfl⟩ := d4 j hj
          rw [getD_none (by omega) true false]
          exact h3 _ hoL e he hbn
        have hus : us = vs := by
          refine List.ext_getElem (by omega) fun j hj hj' => ?_
          have := hS j (by omega) (hle j (by omega))
          rw [List.getD_eq_getElem?_getD, List.getD_eq_getElem?_getD, List.getElem?_eq_getElem hj, List.getElem?_eq_getElem hj'] at this
          exact this
        rw [hus]
        refine Oper.wpIn_mono (fun a' w' hq => ?_) (hlast _ ho w hbl)
        refine ⟨by simpa using hs, .inr ⟨fun j hj => ?_, hq⟩⟩
        by_cases hjl : j = vs.length
        · subst hjl
          rw [Array.getD_eq_getD_getElem?, Array.getElem?_setIfInBounds_self_of_lt (by omega)]
          rfl
        · rw [Array.getD_eq_getD_getElem?, Array.getElem?_setIfInBounds_ne (by omega), ← Array.getD_eq_getD_getElem?]
          exact hle j (by omega)
    · rw [ha i h1] at h2
      cases h2
  · rintro listed a w ⟨hs, h⟩ hr
    rcases h with ⟨hn, _⟩ | ⟨_, hq⟩
    · have := ready_some hall hr hs vs.length (by omega)
      rw [this] at hn
      cases hn
    · exact hq
  · rw [Array.getD_eq_getD_getElem?, Array.getElem?_replicate, if_pos (by omega)] at h
    cases h
  · have hle : ∀ (p : Nat → Bool) n, cntR p n ≤ n := fun p n => by
      induction n with
      | zero => exact Nat.le_refl _
      | succ n ih => rw [cntR]; split <;> omega
    exact hle _ _
end
/-- A step in a round, at the wide fence, is a step. -/
theorem wpIn_of_wp {l n : Nat} {P : Program} {o : Oper} {a : Act} {w : World} {K : Act → World → Prop} {Q : Exit → Act → World → Prop} (hd : ∀ c, o.op ≠ .defer c) (h : Oper.wp P o a w K Q) : Oper.wpIn (Fence.wide.inRound l) n P o a w K Q := by
  refine ⟨fun _ _ => trivial, ?_⟩
  rw [Oper.semAt_eq _ _ _ hd]
  unfold Oper.wp at h
  generalize (execOp a.eval o).run P w = r at *
  cases r with
  | ok x w' =>
    cases x <;> simp only [Oper.upon, Oper.uponIn] at h ⊢
    case value u => exact h
    case skip => exact h
    case defer d => exact h
    case enter f args => exact ⟨fun h => (by cases h), CallsIn.inRound l (callsIn_wide.2 h)⟩
    case row row args => exact ⟨fun h => (by cases h), fun c cs _ => let ⟨v, w2, r, s⟩ := h c cs; ⟨v, w2, r, stepsIn_wide.2 s⟩⟩
  | halt x w' =>
    cases x <;> simp only [Oper.upon, Oper.uponIn] at h ⊢
    case panic u => exact h
end Go.Proofs.YtfbnigikofidoaaDoor
