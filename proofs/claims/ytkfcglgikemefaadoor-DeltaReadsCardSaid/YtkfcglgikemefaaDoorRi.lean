/-
  A REGION THAT DRAWS ITS ORDER, BY WHAT EACH OPERATION LEAVES: if each operation, behind those that it waits for, leaves a value of its own kind, whatever else was done, and what was left stays so, then behind the region all values are of their kinds, in whatever order. Conditions: each operation has a temporary of its own, one behind the other, and no guard; memory only grows.
-/
import Derived.Test.YtkfcglgikemefaaDoorRows
import Derived.Orders
import Derived.Below
import Derived.WalkKit
namespace Go.Proofs.YtkfcglgikemefaaDoor
set_option maxRecDepth 100000
open Go.RowKit
set_option linter.unusedVariables false
def cntR (p : Nat → Bool) : Nat → Nat
  | 0 => 0
  | n + 1 => cntR p n + (if p n then 1 else 0)
theorem cntR_same (p q : Nat → Bool) : ∀ n, (∀ j, j < n → p j = q j) → cntR p n = cntR q n := by
  intro n
  induction n with
  | zero => intro _; rfl
  | succ n ih => intro h; rw [cntR, cntR, ih fun j hj => h j (by omega), h n (by omega)]
theorem cntR_less (p q : Nat → Bool) (i : Nat) : ∀ n, i < n → (∀ j, j ≠ i → q j = p j) → p i = true → q i = false → cntR q n + 1 = cntR p n := by
  intro n
  induction n with
  | zero => intro h; omega
  | succ n ih =>
    intro h hs hp hq
    rw [cntR, cntR]
    by_cases hi : i = n
    · subst hi
      rw [hp, hq, cntR_same q p i fun j hj => hs j (by omega)]
      simp
    · rw [hs n (by omega), ← ih (by omega) hs hp hq]
      omega
theorem cntR_zero (p : Nat → Bool) : ∀ n, cntR p n = 0 → ∀ j, j < n → p j = false := by
  intro n
  induction n with
  | zero => intro _ j hj; omega
  | succ n ih =>
    intro h j hj
    rw [cntR] at h
    by_cases hj' : j = n
    · subst hj'
      cases hp : p j with
      | false => rfl
      | true => rw [hp] at h; simp at h
    · exact ih (by omega) j (by omega)
section
variable {P : Program} {ops : Array Oper} {Q : Exit → Act → World → Prop} {md : Region.Mode}
theorem ready_of {listed : Array Bool} {i : Nat} (h : i ∈ Region.ready md ops listed) : i < ops.size ∧ listed.getD i true = false ∧ ∀ o, ops[i]? = some o → ∀ e ∈ o.after.toList, Region.binds md e = true → listed.getD e.on false = true := by
  unfold Region.ready at h
  rw [List.mem_filter, List.mem_range, Bool.and_eq_true, Bool.not_eq_true'] at h
  refine ⟨h.1, h.2.1, fun o ho e he hb => ?_⟩
  have h2 := h.2.2
  rw [ho] at h2
  simp only [Option.map_some, Option.getD_some] at h2
  have h3 := Array.all_eq_true'.1 h2 e (by simpa using he)
  simpa [hb] using h3
theorem ready_none {listed : Array Bool} (h : ∀ j, j < ops.size → listed.getD j true = true) : Region.ready md ops listed = [] := by
  unfold Region.ready
  rw [List.filter_eq_nil_iff]
  intro i hi
  rw [h i (by simpa using hi)]
  simp
theorem ready_some {listed : Array Bool} (hw : ∀ i o, ops[i]? = some o → ∀ e ∈ o.after.toList, Region.binds md e = true → e.on < i) (h : Region.ready md ops listed = []) (hl : listed.size = ops.size) : ∀ j, j < ops.size → listed.getD j true = true := by
  intro j
  induction j using Nat.strongRecOn with
  | _ j ih =>
    intro hj
    cases hp : listed.getD j true with
    | true => rfl
    | false =>
      have hm : j ∈ Region.ready md ops listed := by
        unfold Region.ready
        rw [List.mem_filter, List.mem_range, Bool.and_eq_true, Bool.not_eq_true']
        refine ⟨hj, hp, ?_⟩
        rw [Array.getElem?_eq_getElem hj]
        simp only [Option.map_some, Option.getD_some]
        refine Array.all_eq_true'.2 fun e he => ?_
        cases hb : Region.binds md e with
        | false => rfl
        | true =>
          have hlt := hw j _ (Array.getElem?_eq_getElem hj) e (by simpa using he) hb
          have := ih e.on hlt (by omega)
          rw [Array.getD_eq_getD_getElem?, Array.getElem?_eq_getElem (by omega)] at this ⊢
          simpa using this
      rw [h] at hm
      cases hm
theorem wpAny_inv {I : Array Bool → Act → World → Prop} (hsz : ∀ listed a w, I listed a w → listed.size = ops.size)
    (hstep : ∀ listed a w, I listed a w → ∀ i ∈ Region.ready md ops listed, wpOp P ops Q i (fun a' w' => I (listed.setIfInBounds i true) a' w') a w)
    (hend : ∀ listed a w, I listed a w → Region.ready md ops listed = [] → Q .normal a w) :
    ∀ (fuel : Nat) (listed : Array Bool) (a : Act) (w : World), I listed a w → cntR (fun j => !listed.getD j true) ops.size ≤ fuel → wpAny P md ops Q fuel listed a w := by
  intro fuel
  induction fuel with
  | zero =>
    intro listed a w h hc
    have hr : Region.ready md ops listed = [] := ready_none fun j hj => by
      have := cntR_zero _ _ (Nat.le_zero.1 hc) j hj
      simpa using this
    exact ⟨hr, hend _ _ _ h hr⟩
  | succ fuel ih =>
    intro listed a w h hc
    refine ⟨hend _ _ _ h, fun i hi => wpOp_mono (fun a' w' h' => ih _ a' w' h' ?_) (hstep _ _ _ h i hi)⟩
    obtain ⟨h1, h2, _⟩ := ready_of hi
    have hs := hsz _ _ _ h
    have := cntR_less (fun j => !listed.getD j true) (fun j => !(listed.setIfInBounds i true).getD j true) i ops.size h1 (fun j hj => by
      show (!(listed.setIfInBounds i true).getD j true) = !listed.getD j true
      rw [Array.getD_eq_getD_getElem?, Array.getD_eq_getD_getElem?, Array.getElem?_setIfInBounds_ne (by omega)]) (by simpa using h2) (by
      show (!(listed.setIfInBounds i true).getD i true) = false
      rw [Array.getD_eq_getD_getElem?, Array.getElem?_setIfInBounds_self_of_lt (by omega)]
      rfl)
    omega
/-- A frame: what stands ahead, the region's own temporaries, what stands behind. -/
def fr (pre us post : List Value) : Act := ⟨(pre ++ us ++ post).toArray, []⟩
theorem fr_put (pre us post : List Value) (i : Nat) (v : Value) (h : i < us.length) : (fr pre us post).put (some (pre.length + i)) v = fr pre (us.set i v) post := by
  have h1 : (pre ++ us ++ post).set (pre.length + i) v = pre ++ us.set i v ++ post := by
    rw [List.append_assoc, List.set_append_right _ _ (by omega), List.set_append_left _ _ (by omega), List.append_assoc]
    congr 3
    omega
  show (⟨(pre ++ us ++ post).toArray.setIfInBounds (pre.length + i) v, []⟩ : Act) = ⟨(pre ++ us.set i v ++ post).toArray, []⟩
  rw [← h1, List.setIfInBounds_toArray]
theorem fr_eval (pre us post : List Value) (i : Nat) (h : i < us.length) : (fr pre us post).eval (.tmp (pre.length + i)) = us.getD i undef := by
  show (pre ++ us ++ post).toArray.getD (pre.length + i) undef = _
  rw [Array.getD_eq_getD_getElem?, List.getElem?_toArray, List.append_assoc, List.getElem?_append_right (by omega), List.getElem?_append_left (by omega), List.getD_eq_getElem?_getD]
  congr 2
  omega
theorem fr_pre (pre us post : List Value) (i : Nat) (h : i < pre.length) : (fr pre us post).eval (.tmp i) = pre.getD i undef := by
  show (pre ++ us ++ post).toArray.getD i undef = _
  rw [Array.getD_eq_getD_getElem?, List.getElem?_toArray, List.append_assoc, List.getElem?_append_left (by omega), List.getD_eq_getElem?_getD]
theorem wp_region_inv {id : Nat} (S : Nat → Value → World → Prop) (W : World) (pre us0 post : List Value) (hm : P.follows .mixedOrders = true) (hlen : us0.length = ops.size)
    (hops : ∀ i o, ops[i]? = some o → o.dst = some (pre.length + i) ∧ o.guard = none ∧ ∀ e ∈ o.after.toList, Region.binds .any e = true → e.on < i)
    (hmono : ∀ i v w w', Below W.heap.size W w → Below w.heap.size w w' → S i v w → S i v w')
    (hstep : ∀ i o, ops[i]? = some o → ∀ us w, us.length = ops.size → Below W.heap.size W w → (∀ e ∈ o.after.toList, Region.binds .any e = true → S e.on (us.getD e.on undef) w) →
      ∀ K : Act → World → Prop, (∀ v w', Below w.heap.size w w' → S i v w' → K (fr pre (us.set i v) post) w') → Oper.wp P o (fr pre us post) w K Q)
    (hend : ∀ us w, us.length = ops.size → Below W.heap.size W w → (∀ i, i < ops.size → S i (us.getD i undef) w) → Q .normal (fr pre us post) w) :
    (Code.region id ops true).wp P Q (fr pre us0 post) W := by
  refine wp_region_any hm ?_
  refine wpAny_inv (I := fun listed a w => listed.size = ops.size ∧ ∃ us : List Value, us.length = ops.size ∧ a = fr pre us post ∧ Below W.heap.size W w ∧ ∀ i, i < ops.size → listed.getD i true = true → S i (us.getD i undef) w) (fun _ _ _ h => h.1) ?_ ?_ _ _ _ _ ⟨by simp, us0, hlen, rfl, (Below.refl _ _).drew, fun i hi h => ?_⟩ ?_
  · rintro listed a w ⟨hs, us, hu, rfl, hb, hS⟩ i hi
    obtain ⟨h1, h2, h3⟩ := ready_of hi
    have ho : ops[i]? = some ops[i] := Array.getElem?_eq_getElem h1
    obtain ⟨o1, o2, o3⟩ := hops i _ ho
    unfold wpOp
    rw [ho]
    have hw : Region.wanted ops[i] (yielded ops (fr pre us post).tmps) = true := by simp [Region.wanted, o2]
    simp only [hw, if_true]
    refine .inl (hstep i _ ho us w hu hb (fun e he hbn => ?_) _ fun v w' hb' hv => ?_)
    · have hlt := o3 e he hbn
      refine hS e.on (by omega) ?_
      have := h3 _ ho e he hbn
      rw [Array.getD_eq_getD_getElem?, Array.getElem?_eq_getElem (by omega)] at this ⊢
      simpa using this
    · refine ⟨by simpa using hs, us.set i v, by simpa using hu, rfl, hb.trans (hb'.mono hb.size), fun j hj hl => ?_⟩
      by_cases hji : j = i
      · subst hji
        rw [List.getD_eq_getElem?_getD, List.getElem?_set_self (by omega)]
        exact hv
      · rw [List.getD_eq_getElem?_getD, List.getElem?_set_ne (by omega), ← List.getD_eq_getElem?_getD]
        refine hmono j _ w w' hb hb' (hS j hj ?_)
        rw [Array.getD_eq_getD_getElem?, Array.getElem?_setIfInBounds_ne (by omega), ← Array.getD_eq_getD_getElem?] at hl
        exact hl
  · rintro listed a w ⟨hs, us, hu, rfl, hb, hS⟩ hr
    have hall := ready_some (fun i o ho => (hops i o ho).2.2) hr hs
    exact hend us w hu hb fun i hi => hS i hi (hall i hi)
  · rw [Array.getD_eq_getD_getElem?, Array.getElem?_replicate, if_pos hi] at h
    cases h
  · have hle : ∀ (p : Nat → Bool) n, cntR p n ≤ n := fun p n => by
      induction n with
      | zero => exact Nat.le_refl _
      | succ n ih => rw [cntR]; split <;> omega
    exact hle _ _
/-- Each operation has a temporary of its own, one behind the other, no guard, and waits for such alone as stand ahead. -/
def okOps (p : Nat) (ops : Array Oper) : Bool := (List.range ops.size).all fun i => match ops[i]? with
  | some o => o.dst == some (p + i) && o.guard.isNone && o.after.all fun e => !Region.binds .any e || decide (e.on < i)
  | none => false
theorem okOps_spec {p : Nat} {ops : Array Oper} (h : okOps p ops = true) : ∀ i o, ops[i]? = some o → o.dst = some (p + i) ∧ o.guard = none ∧ ∀ e ∈ o.after.toList, Region.binds .any e = true → e.on < i := by
  intro i o ho
  have hi : i < ops.size := (Array.getElem?_eq_some_iff.1 ho).1
  have h1 := List.all_eq_true.1 h i (by simpa using hi)
  rw [ho] at h1
  simp only [Bool.and_eq_true, beq_iff_eq, Option.isNone_iff_eq_none] at h1
  refine ⟨h1.1.1, h1.1.2, fun e he hb => ?_⟩
  have h2 := Array.all_eq_true'.1 h1.2 e (by simpa using he)
  simpa [hb] using h2
/-- The law, at a frame that is given whole. -/
theorem wp_region_kinds {id : Nat} (S : Nat → Value → World → Prop) (W : World) (T : Array Value) (p : Nat) (hp : p + ops.size ≤ T.size) (hm : P.follows .mixedOrders = true) (hops : okOps p ops = true)
    (hmono : ∀ i v w w', Below W.heap.size W w → Below w.heap.size w w' → S i v w → S i v w')
    (hstep : ∀ i o, ops[i]? = some o → ∀ (a : Act) (us : List Value) (w : World), us.length = ops.size → (∀ t, t < p → a.eval (.tmp t) = T.getD t undef) → (∀ j, j < ops.size → a.eval (.tmp (p + j)) = us.getD j undef) → Below W.heap.size W w → (∀ e ∈ o.after.toList, Region.binds .any e = true → S e.on (us.getD e.on undef) w) →
      ∀ K : Act → World → Prop, (∀ v w', Below w.heap.size w w' → S i v w' → K (a.put o.dst v) w') → Oper.wp P o a w K Q)
    (hend : ∀ (us : List Value) (w : World), us.length = ops.size → Below W.heap.size W w → (∀ i, i < ops.size → S i (us.getD i undef) w) → Q .normal (fr (T.toList.take p) us (T.toList.drop (p + ops.size))) w) :
    (Code.region id ops true).wp P Q ⟨T, []⟩ W := by
  have hl : (T.toList.take p).length = p := by simp; omega
  have hsplit : T = (T.toList.take p ++ (T.toList.drop p).take ops.size ++ T.toList.drop (p + ops.size)).toArray := by
    apply Array.ext'
    rw [List.toList_toArray, List.append_assoc, ← List.drop_drop, List.take_append_drop, List.take_append_drop]
  have hfr : (⟨T, []⟩ : Act) = fr (T.toList.take p) ((T.toList.drop p).take ops.size) (T.toList.drop (p + ops.size)) := by
    unfold fr
    rw [← hsplit]
  rw [hfr]
  have hsp := okOps_spec hops
  refine wp_region_inv S W _ _ _ hm (by simp; omega) (fun i o ho => by rw [hl]; exact hsp i o ho) hmono (fun i o ho us w hu hb hd K hK => ?_) hend
  have hi : i < ops.size := (Array.getElem?_eq_some_iff.1 ho).1
  refine hstep i o ho _ us w hu (fun t ht => ?_) (fun j hj => ?_) hb hd K fun v w' h1 h2 => ?_
  · rw [fr_pre _ _ _ _ (by omega), List.getD_eq_getElem?_getD, List.getElem?_take_of_lt ht, Array.getD_eq_getD_getElem?]
    simp
  · have := fr_eval (T.toList.take p) us (T.toList.drop (p + ops.size)) j (by omega)
    rwa [hl] at this
  · have := fr_put (T.toList.take p) us (T.toList.drop (p + ops.size)) i v (by omega)
    rw [hl] at this
    rw [(hsp i o ho).1, this]
    exact hK v w' h1 h2
end
end Go.Proofs.YtkfcglgikemefaaDoor
