/-
  A REGION THAT DRAWS ITS ORDER, BY WHAT EACH OPERATION LEAVES, WITH GUARDS: as XRi's, where all that guards ask holds. Conditions: as XRi's; an operation with a guard waits for the one that it asks, and that one comes to what it asks.
-/
import Derived.Test.YtokhcogmoleocaaRi
namespace Go.Proofs.Ytokhcogmoleocaa
set_option maxRecDepth 100000
open Go.RowKit
set_option linter.unusedVariables false
section
variable {P : Program} {ops : Array Oper} {Q : Exit → Act → World → Prop}
theorem wp_region_invG {id : Nat} (S : Nat → Value → World → Prop) (W : World) (pre us0 post : List Value) (hm : P.follows .mixedOrders = true) (hlen : us0.length = ops.size)
    (hops : ∀ (i : Nat) (o : Oper), ops[i]? = some o → o.dst = some (pre.length + i) ∧ (o.guard = none ∨ ∃ j want, o.guard = some (j, want) ∧ (∃ e ∈ o.after.toList, Region.binds .any e = true ∧ e.on = j) ∧ ∀ v w, S j v w → v = .bool want) ∧ ∀ e ∈ o.after.toList, Region.binds .any e = true → e.on < i)
    (hmono : ∀ i v w w', Below W.heap.size W w → Below w.heap.size w w' → S i v w → S i v w')
    (hstep : ∀ i o, ops[i]? = some o → ∀ us w, us.length = ops.size → Below W.heap.size W w → (∀ e ∈ o.after.toList, Region.binds .any e = true → S e.on (us.getD e.on undef) w) →
      ∀ K : Act → World → Prop, (∀ v w', Below w.heap.size w w' → S i v w' → K (fr pre (us.set i v) post) w') → Oper.wp P o (fr pre us post) w K Q)
    (hend : ∀ us w, us.length = ops.size → Below W.heap.size W w → (∀ i, i < ops.size → S i (us.getD i undef) w) → Q .normal (fr pre us post) w) :
    (Code.region id ops true).wp P Q (fr pre us0 post) W := by
  refine wp_region_any hm ?_
  refine wpAny_inv (I := fun listed a w => listed.size = ops.size ∧ ∃ us : List Value, us.length = ops.size ∧ a = fr pre us post ∧ Below W.heap.size W w ∧ ∀ i, i < ops.size → listed.getD i true = true → S i (us.getD i undef) w) (fun _ _ _ h => h.1) ?_ ?_ _ _ _ _ ⟨by simp, us0, hlen, rfl, (Below.refl _ _).drew, fun i hi h => ?_⟩ ?_
  · rintro listed a w ⟨hs, us, hu, rfl, hb, hS⟩ i hi
    obtain ⟨h1, h2, h3⟩ := ready_of hi
    have ho : ops[i]? = some ops[i] := Array.getElem?_eq_getElem h1
    obtain ⟨o1, o2, o3⟩ := hops i _ ho
    unfold wpOp
    rw [ho]
    have hw : Region.wanted ops[i] (yielded ops (fr pre us post).tmps) = true := by
      rcases o2 with o2 | ⟨j, want, o2, ⟨e, he, hbn, hej⟩, hj⟩
      · simp [Region.wanted, o2]
      · have hlt := o3 e he hbn
        have hjs : j < ops.size := by omega
        have hSj := hS e.on (by omega) (by
          have := h3 _ ho e he hbn
          rw [Array.getD_eq_getD_getElem?, Array.getElem?_eq_getElem (by omega)] at this ⊢
          simpa using this)
        rw [hej] at hSj
        have hv := hj _ _ hSj
        have hat : (fr pre us post).tmps[pre.length + j]? = some (us.getD j undef) := by
          show (pre ++ us ++ post).toArray[pre.length + j]? = _
          rw [List.getElem?_toArray, List.append_assoc, List.getElem?_append_right (by omega), List.getElem?_append_left (by omega), show pre.length + j - pre.length = j by omega, List.getElem?_eq_getElem (by omega), List.getD_eq_getElem?_getD, List.getElem?_eq_getElem (by omega)]
          rfl
        have hy : yielded ops (fr pre us post).tmps j = some want := by
          unfold yielded
          rw [Array.getElem?_eq_getElem hjs]
          simp only [Option.bind_some]
          rw [(hops j _ (Array.getElem?_eq_getElem hjs)).1]
          simp only [Option.bind_some]
          rw [hat, hv]
        simp [Region.wanted, o2, hy]
    simp only [hw, if_true]
    refine .inl (hstep i _ ho us w hu hb (fun e he hbn => ?_) _ fun v w' hb' hv => ?_)
    · have hlt := o3 e he hbn
      refine hS e.on (by omega) ?_
      have := h3 _ ho e he hbn
      rw [Array.getD_eq_getD_getElem?, Array.getElem?_eq_getElem (by omega)] at this ⊢
      simpa using this
    · refine ⟨by simpa using hs, us.set i v, by simpa using hu, rfl, hb.trans (hb'.mono hb.size), fun j hj hl => ?_⟩
      by_cases hji : j = i
      · subst hji
        rw [List.getD_eq_getElem?_getD, List.getElem?_set_self (by omega)]
        exact hv
      · rw [List.getD_eq_getElem?_getD, List.getElem?_set_ne (by omega), ← List.getD_eq_getElem?_getD]
        refine hmono j _ w w' hb hb' (hS j hj ?_)
        rw [Array.getD_eq_getD_getElem?, Array.getElem?_setIfInBounds_ne (by omega), ← Array.getD_eq_getD_getElem?] at hl
        exact hl
  · rintro listed a w ⟨hs, us, hu, rfl, hb, hS⟩ hr
    have hall := ready_some (fun i o ho => (hops i o ho).2.2) hr hs
    exact hend us w hu hb fun i hi => hS i hi (hall i hi)
  · rw [Array.getD_eq_getD_getElem?, Array.getElem?_replicate, if_pos hi] at h
    cases h
  · have hle : ∀ (p : Nat → Bool) n, cntR p n ≤ n := fun p n => by
      induction n with
      | zero => exact Nat.le_refl _
      | succ n ih => rw [cntR]; split <;> omega
    exact hle _ _
/-- Each operation has a temporary of its own, one behind the other, and waits for such alone as stand ahead; one with a guard waits for what it asks. -/
def okG (p : Nat) (ops : Array Oper) : Bool := (List.range ops.size).all fun i => match ops[i]? with
  | some o => o.dst == some (p + i) && (match o.guard with | none => true | some (j, _) => o.after.any fun e => Region.binds .any e && e.on == j) && o.after.all fun e => !Region.binds .any e || decide (e.on < i)
  | none => false
theorem okG_spec {p : Nat} {ops : Array Oper} (h : okG p ops = true) : ∀ (i : Nat) (o : Oper), ops[i]? = some o → o.dst = some (p + i) ∧ (∀ j want, o.guard = some (j, want) → ∃ e ∈ o.after.toList, Region.binds .any e = true ∧ e.on = j) ∧ ∀ e ∈ o.after.toList, Region.binds .any e = true → e.on < i := by
  intro i o ho
  have hi : i < ops.size := (Array.getElem?_eq_some_iff.1 ho).1
  have h1 := List.all_eq_true.1 h i (by simpa using hi)
  rw [ho] at h1
  simp only [Bool.and_eq_true, beq_iff_eq] at h1
  refine ⟨h1.1.1, fun j want hg => ?_, fun e he hb => ?_⟩
  · have h2 := h1.1.2
    rw [hg] at h2
    obtain ⟨e, he, h6⟩ := Array.any_eq_true'.1 h2
    simp only [Bool.and_eq_true, beq_iff_eq] at h6
    exact ⟨e, by simpa using he, h6.1, h6.2⟩
  · have h2 := Array.all_eq_true'.1 h1.2 e (by simpa using he)
    simpa [hb] using h2
/-- The law, at a frame that is given whole. -/
theorem wp_region_kindsG {id : Nat} (S : Nat → Value → World → Prop) (W : World) (T : Array Value) (p : Nat) (hp : p + ops.size ≤ T.size) (hm : P.follows .mixedOrders = true) (hops : okG p ops = true) (hguard : ∀ (i : Nat) (o : Oper) (j : Nat) (want : Bool), ops[i]? = some o → o.guard = some (j, want) → ∀ v w, S j v w → v = .bool want)
    (hmono : ∀ i v w w', Below W.heap.size W w → Below w.heap.size w w' → S i v w → S i v w')
    (hstep : ∀ i o, ops[i]? = some o → ∀ (a : Act) (us : List Value) (w : World), us.length = ops.size → (∀ t, t < p → a.eval (.tmp t) = T.getD t undef) → (∀ j, j < ops.size → a.eval (.tmp (p + j)) = us.getD j undef) → Below W.heap.size W w → (∀ e ∈ o.after.toList, Region.binds .any e = true → S e.on (us.getD e.on undef) w) →
      ∀ K : Act → World → Prop, (∀ v w', Below w.heap.size w w' → S i v w' → K (a.put o.dst v) w') → Oper.wp P o a w K Q)
    (hend : ∀ (us : List Value) (w : World), us.length = ops.size → Below W.heap.size W w → (∀ i, i < ops.size → S i (us.getD i undef) w) → Q .normal (fr (T.toList.take p) us (T.toList.drop (p + ops.size))) w) :
    (Code.region id ops true).wp P Q ⟨T, []⟩ W := by
  have hl : (T.toList.take p).length = p := by simp; omega
  have hsplit : T = (T.toList.take p ++ (T.toList.drop p).take ops.size ++ T.toList.drop (p + ops.size)).toArray := by
    apply Array.ext'
    rw [List.toList_toArray, List.append_assoc, ← List.drop_drop, List.take_append_drop, List.take_append_drop]
  have hfr : (⟨T, []⟩ : Act) = fr (T.toList.take p) ((T.toList.drop p).take ops.size) (T.toList.drop (p + ops.size)) := by
    unfold fr
    rw [← hsplit]
  rw [hfr]
  have hsp := okG_spec hops
  refine wp_region_invG S W _ _ _ hm (by simp; omega) (fun i o ho => by
    rw [hl]
    obtain ⟨s1, s2, s3⟩ := hsp i o ho
    refine ⟨s1, ?_, s3⟩
    cases hg : o.guard with
    | none => exact .inl rfl
    | some x => exact .inr ⟨x.1, x.2, rfl, s2 x.1 x.2 hg, hguard i o x.1 x.2 ho hg⟩) hmono (fun i o ho us w hu hb hd K hK => ?_) hend
  have hi : i < ops.size := (Array.getElem?_eq_some_iff.1 ho).1
  refine hstep i o ho _ us w hu (fun t ht => ?_) (fun j hj => ?_) hb hd K fun v w' h1 h2 => ?_
  · rw [fr_pre _ _ _ _ (by omega), List.getD_eq_getElem?_getD, List.getElem?_take_of_lt ht, Array.getD_eq_getD_getElem?]
    simp
  · have := fr_eval (T.toList.take p) us (T.toList.drop (p + ops.size)) j (by omega)
    rwa [hl] at this
  · have := fr_put (T.toList.take p) us (T.toList.drop (p + ops.size)) i v (by omega)
    rw [hl] at this
    rw [(hsp i o ho).1, this]
    exact hK v w' h1 h2
end
end Go.Proofs.Ytokhcogmoleocaa
