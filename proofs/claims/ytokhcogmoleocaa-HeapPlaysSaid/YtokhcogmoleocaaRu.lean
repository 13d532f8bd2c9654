/-
  A REGION THAT DRAWS ITS ORDER, WITH GUARDS, BY A STATE: its operations, each with a temporary of its own, one behind the other, by a predicate of which of them are done, what they left, and the memory (which they may write). Conditions: what a guard asks holds; an operation with a guard waits for the one that it asks.
-/
import Derived.Test.YtokhcogmoleocaaRk
import Derived.Test.YtokhcogmoleocaaRs
namespace Go.Proofs.Ytokhcogmoleocaa
set_option maxRecDepth 100000
open Go.RowKit
set_option linter.unusedVariables false
section
variable {P : Program} {ops : Array Oper} {Q : Exit → Act → World → Prop}
theorem donR_full {n : Nat} {listed : Array Bool} (hs : listed.size = n) (h : ∀ j, j < n → listed.getD j true = true) : donR n listed = fun j => decide (j < n) := by
  funext j
  unfold donR
  by_cases hj : j < n
  · rw [getD_both (by omega) false true, h j hj, Bool.and_true]
  · rw [decide_eq_false hj, Bool.false_and]
theorem wp_region_stG {id : Nat} (J : (Nat → Bool) → (Nat → Value) → World → Prop) (W : World) (T : Array Value) (p : Nat) (hp : p + ops.size ≤ T.size) (hm : P.follows .mixedOrders = true) (hops : okG p ops = true)
    (hguard : ∀ (i : Nat) (o : Oper) (j : Nat) (want : Bool), ops[i]? = some o → o.guard = some (j, want) → ∀ don u w, J don u w → don j = true → u j = .bool want)
    (h0 : ∀ u, J (fun _ => false) u W.drew)
    (hstep : ∀ i o, ops[i]? = some o → ∀ (don : Nat → Bool) (u : Nat → Value) (a : Act) (w : World), (∀ t, t < p → a.tmps[t]?.getD undef = T[t]?.getD undef) → (∀ j, j < ops.size → a.tmps[p + j]?.getD undef = u j) → don i = false → (∀ e ∈ o.after.toList, Region.binds .any e = true → don e.on = true) → J don u w →
      ∀ K : Act → World → Prop, (∀ v w', J (fun j => j == i || don j) (fun j => if j = i then v else u j) w' → K (a.put o.dst v) w') → Oper.wp P o a w K Q)
    (hend : ∀ (us : List Value) (w : World), us.length = ops.size → J (fun j => decide (j < ops.size)) (fun j => us.getD j undef) w → Q .normal (fr (T.toList.take p) us (T.toList.drop (p + ops.size))) w) :
    (Code.region id ops true).wp P Q ⟨T, []⟩ W := by
  have hl : (T.toList.take p).length = p := by simp; omega
  have hsplit : T = (T.toList.take p ++ (T.toList.drop p).take ops.size ++ T.toList.drop (p + ops.size)).toArray := by
    apply Array.ext'
    rw [List.toList_toArray, List.append_assoc, ← List.drop_drop, List.take_append_drop, List.take_append_drop]
  have hfr : (⟨T, []⟩ : Act) = fr (T.toList.take p) ((T.toList.drop p).take ops.size) (T.toList.drop (p + ops.size)) := by
    unfold fr
    rw [← hsplit]
  have hsp := okG_spec hops
  have hdon0 : donR ops.size (Array.replicate ops.size false) = fun _ => false := by
    funext j
    unfold donR
    rw [Array.getD_eq_getD_getElem?, Array.getElem?_replicate]
    split <;> simp
  rw [hfr]
  refine wp_region_any hm ?_
  refine wpAny_inv (I := fun listed a w => listed.size = ops.size ∧ ∃ us : List Value, us.length = ops.size ∧ a = fr (T.toList.take p) us (T.toList.drop (p + ops.size)) ∧ J (donR ops.size listed) (fun j => us.getD j undef) w) (fun _ _ _ h => h.1) ?_ ?_ _ _ _ _ ⟨by simp, (T.toList.drop p).take ops.size, by simp; omega, rfl, by rw [hdon0]; exact h0 _⟩ ?_
  · rintro listed a w ⟨hs, us, hu, rfl, hJ⟩ i hi
    obtain ⟨h1, h2, h3⟩ := ready_of hi
    have ho : ops[i]? = some ops[i] := Array.getElem?_eq_getElem h1
    obtain ⟨o1, o2, o3⟩ := hsp i _ ho
    have hdone : ∀ e ∈ ops[i].after.toList, Region.binds .any e = true → donR ops.size listed e.on = true := fun e he hbn => by
      have hlt := o3 e he hbn
      unfold donR
      rw [decide_eq_true (by omega), Bool.true_and]
      exact h3 _ ho e he hbn
    have hev : ∀ j, j < ops.size → (fr (T.toList.take p) us (T.toList.drop (p + ops.size))).tmps[p + j]?.getD undef = us.getD j undef := fun j hj => by
      have h := fr_eval (T.toList.take p) us (T.toList.drop (p + ops.size)) j (by omega)
      rw [hl] at h
      rw [← h]
      show _ = Array.getD _ _ _
      rw [Array.getD_eq_getD_getElem?]
    unfold wpOp
    rw [ho]
    have hw : Region.wanted ops[i] (yielded ops (fr (T.toList.take p) us (T.toList.drop (p + ops.size))).tmps) = true := by
      cases hg : ops[i].guard with
      | none => simp [Region.wanted, hg]
      | some x =>
        obtain ⟨j, want⟩ := x
        obtain ⟨e, he, hbn, hej⟩ := o2 j want hg
        have hlt := o3 e he hbn
        have hjs : j < ops.size := by omega
        have hv := hguard i _ j want ho hg _ _ _ hJ (by rw [← hej]; exact hdone e he hbn)
        have hat : (fr (T.toList.take p) us (T.toList.drop (p + ops.size))).tmps[p + j]? = some (us.getD j undef) := by
          show (T.toList.take p ++ us ++ T.toList.drop (p + ops.size)).toArray[p + j]? = _
          rw [List.getElem?_toArray, List.append_assoc, List.getElem?_append_right (by omega), List.getElem?_append_left (by omega), show p + j - (T.toList.take p).length = j by omega, List.getElem?_eq_getElem (by omega), List.getD_eq_getElem?_getD, List.getElem?_eq_getElem (by omega)]
          rfl
        have hy : yielded ops (fr (T.toList.take p) us (T.toList.drop (p + ops.size))).tmps j = some want := by
          unfold yielded
          rw [Array.getElem?_eq_getElem hjs]
          simp only [Option.bind_some]
          rw [(hsp j _ (Array.getElem?_eq_getElem hjs)).1]
          simp only [Option.bind_some]
          rw [hat, hv]
        simp [Region.wanted, hg, hy]
    simp only [hw, if_true]
    refine .inl (hstep i _ ho (donR ops.size listed) (fun j => us.getD j undef) _ w (fun t ht => ?_) hev ?_ hdone hJ _ fun v w' hv => ?_)
    · have h := fr_pre (T.toList.take p) us (T.toList.drop (p + ops.size)) t (by omega)
      rw [List.getD_eq_getElem?_getD, List.getElem?_take_of_lt ht] at h
      have h2 : (fr (T.toList.take p) us (T.toList.drop (p + ops.size))).tmps[t]?.getD undef = (fr (T.toList.take p) us (T.toList.drop (p + ops.size))).eval (.tmp t) := by
        show _ = Array.getD _ _ _
        rw [Array.getD_eq_getD_getElem?]
      rw [h2, h]
      simp
    · unfold donR
      rw [getD_both (by omega) false true, h2, Bool.and_false]
    · have hput := fr_put (T.toList.take p) us (T.toList.drop (p + ops.size)) i v (by omega)
      rw [hl] at hput
      rw [o1, hput]
      refine ⟨by simpa using hs, us.set i v, by simpa using hu, rfl, ?_⟩
      rw [donR_set h1 (by omega)]
      have hf : (fun j => (us.set i v).getD j undef) = fun j => if j = i then v else us.getD j undef := by
        funext j
        by_cases h : j = i
        · subst h
          rw [List.getD_eq_getElem?_getD, List.getElem?_set_self (by omega), if_pos rfl]
          rfl
        · rw [List.getD_eq_getElem?_getD, List.getElem?_set_ne (by omega), ← List.getD_eq_getElem?_getD, if_neg h]
      rw [hf]
      exact hv
  · rintro listed a w ⟨hs, us, hu, rfl, hJ⟩ hr
    have hall := ready_some (fun i o ho => (hsp i o ho).2.2) hr hs
    rw [donR_full hs hall] at hJ
    exact hend us w hu hJ
  · have hle : ∀ (p : Nat → Bool) n, cntR p n ≤ n := fun p n => by
      induction n with
      | zero => exact Nat.le_refl _
      | succ n ih => rw [cntR]; split <;> omega
    exact hle _ _
end
end Go.Proofs.Ytokhcogmoleocaa
