/-
  A REGION THAT DRAWS ITS ORDER, WITH GUARDS, EACH OF WHOSE OPERATIONS LEAVES ONE VALUE, and only adds to memory; the ones whose guard fails are left out. Conditions: as they stand.
-/
import Derived.Test.YtkfcglgikemefaaDoorRt
namespace Go.Proofs.YtkfcglgikemefaaDoor
set_option maxRecDepth 100000
open Go.RowKit
set_option linter.unusedVariables false
section
variable {P : Program} {ops : Array Oper} {Q : Exit → Act → World → Prop}
def waitsV (ops : Array Oper) (i j : Nat) : Bool := match ops[i]? with
  | some o => o.after.any fun e => Region.binds .any e && e.on == j
  | none => false
def okV (ds : List Nat) (on : List Bool) (ops : Array Oper) : Bool := decide (ops.size = ds.length) && (List.range ops.size).all fun i => match ops[i]? with
  | some o => o.dst == ds[i]? && (match o.guard with | none => on.getD i false | some (j, _) => on.getD j false && decide (j < ops.size) && o.after.any fun e => Region.binds .any e && e.on == j) && o.after.all fun e => !Region.binds .any e || decide (e.on < i)
  | none => false
theorem okV_spec {ds : List Nat} {on : List Bool} {ops : Array Oper} (h : okV ds on ops = true) : ops.size = ds.length ∧ ∀ (i : Nat) (o : Oper), ops[i]? = some o → o.dst = ds[i]? ∧ (o.guard = none → on.getD i false = true) ∧ (∀ j want, o.guard = some (j, want) → on.getD j false = true ∧ j < ops.size ∧ ∃ e ∈ o.after.toList, Region.binds .any e = true ∧ e.on = j) ∧ ∀ e ∈ o.after.toList, Region.binds .any e = true → e.on < i := by
  unfold okV at h
  rw [Bool.and_eq_true, decide_eq_true_eq] at h
  refine ⟨h.1, fun i o ho => ?_⟩
  have hi : i < ops.size := (Array.getElem?_eq_some_iff.1 ho).1
  have h1 := List.all_eq_true.1 h.2 i (by simpa using hi)
  rw [ho] at h1
  simp only [Bool.and_eq_true, beq_iff_eq] at h1
  refine ⟨h1.1.1, fun hg => ?_, fun j want hg => ?_, fun e he hb => ?_⟩
  · have h2 := h1.1.2
    rw [hg] at h2
    exact h2
  · have h2 := h1.1.2
    rw [hg] at h2
    simp only [Bool.and_eq_true, decide_eq_true_eq] at h2
    obtain ⟨e, he, h6⟩ := Array.any_eq_true'.1 h2.2
    simp only [Bool.and_eq_true, beq_iff_eq] at h6
    exact ⟨h2.1.1, h2.1.2, e, by simpa using he, h6.1, h6.2⟩
  · have h2 := Array.all_eq_true'.1 h1.2 e (by simpa using he)
    simpa [hb] using h2
theorem wp_region_vals3 {id : Nat} (vals : List Value) (on : List Bool) (ds : List Nat) (W : World) (T : Array Value) (hn : ds.Nodup) (hd : ∀ d ∈ ds, d < T.size) (hm : P.follows .mixedOrders = true) (hops : okV ds on ops = true)
    (hguard : ∀ (i : Nat) (o : Oper) (j : Nat) (want : Bool), ops[i]? = some o → o.guard = some (j, want) → vals.getD j undef = .bool (if on.getD i false = true then want else !want))
    (hstep : ∀ i o, ops[i]? = some o → i < ds.length → on.getD i false = true → ∀ (a : Act) (w : World), (∀ t, t ∉ ds → a.tmps[t]?.getD undef = T[t]?.getD undef) → (∀ j, waitsV ops i j = true → on.getD j false = true → a.tmps[ds.getD j 0]?.getD undef = vals.getD j undef) → Below W.heap.size W w →
      ∀ K : Act → World → Prop, (∀ w', Below w.heap.size w w' → K (a.put o.dst (vals.getD i undef)) w') → Oper.wp P o a w K Q)
    (hend : ∀ (us : List Value) (w : World), us.length = ds.length → Below W.heap.size W w → (∀ i, i < ds.length → on.getD i false = true → us.getD i undef = vals.getD i undef) → Q .normal ⟨putAll T ds us, []⟩ w) :
    (Code.region id ops true).wp P Q ⟨T, []⟩ W := by
  obtain ⟨hsz, hsp⟩ := okV_spec hops
  refine wp_region_any hm ?_
  refine wpAny_inv (I := fun listed a w => listed.size = ops.size ∧ ∃ us : List Value, us.length = ds.length ∧ a = ⟨putAll T ds us, []⟩ ∧ Below W.heap.size W w ∧ ∀ i, i < ds.length → listed.getD i true = true → on.getD i false = true → us.getD i undef = vals.getD i undef) (fun _ _ _ h => h.1) ?_ ?_ _ _ _ _ ⟨by simp, ds.map fun d => T.getD d undef, by simp, by rw [putAll_id ds T hn hd], (Below.refl _ _).drew, fun i hi h => ?_⟩ ?_
  · rintro listed a w ⟨hs, us, hu, rfl, hb, hS⟩ i hi
    obtain ⟨h1, h2, h3⟩ := ready_of hi
    have ho : ops[i]? = some ops[i] := Array.getElem?_eq_getElem h1
    obtain ⟨o1, o2, o4, o3⟩ := hsp i _ ho
    have hid : i < ds.length := by omega
    have hat : ∀ j, j < ds.length → (putAll T ds us)[ds.getD j 0]? = us[j]? := fun j hj => by
      rw [List.getD_eq_getElem?_getD, List.getElem?_eq_getElem hj]
      exact putAll_at T ds us j hj hu.symm hn (hd _ (List.getElem_mem hj))
    have hdone : ∀ e ∈ ops[i].after.toList, Region.binds .any e = true → on.getD e.on false = true → us.getD e.on undef = vals.getD e.on undef := fun e he hbn hon => by
      have hlt := o3 e he hbn
      refine hS e.on (by omega) ?_ hon
      have := h3 _ ho e he hbn
      rw [Array.getD_eq_getD_getElem?, Array.getElem?_eq_getElem (by omega)] at this ⊢
      simpa using this
    have hw : Region.wanted ops[i] (yielded ops (putAll T ds us)) = on.getD i false := by
      cases hg : ops[i].guard with
      | none => rw [o2 hg]; simp [Region.wanted, hg]
      | some x =>
        obtain ⟨j, want⟩ := x
        obtain ⟨p1, p2, e, he, hbn, hej⟩ := o4 j want hg
        have hv := hguard i _ j want ho hg
        have hq := hdone e he hbn (by rw [hej]; exact p1)
        rw [hej, hv] at hq
        have hj : j < ds.length := by omega
        have hg2 := hat j hj
        rw [List.getElem?_eq_getElem (show j < us.length by omega)] at hg2
        rw [List.getD_eq_getElem?_getD, List.getElem?_eq_getElem (show j < us.length by omega)] at hq
        have hdj : ops[j].dst = some (ds.getD j 0) := by
          rw [(hsp j _ (Array.getElem?_eq_getElem p2)).1, List.getD_eq_getElem?_getD, List.getElem?_eq_getElem hj]
          rfl
        have hy : yielded ops (putAll T ds us) j = some (if on.getD i false = true then want else !want) := by
          unfold yielded
          rw [Array.getElem?_eq_getElem p2]
          simp only [Option.bind_some]
          rw [hdj]
          simp only [Option.bind_some]
          rw [hg2]
          simp only [Option.getD_some] at hq
          rw [hq]
        cases hon : on.getD i false <;> rw [hon] at hy <;> cases want <;> simp [Region.wanted, hg, hy]
    unfold wpOp
    rw [ho]
    simp only [hw]
    cases hon : on.getD i false with
    | true =>
      simp only [if_true]
      refine .inl (hstep i _ ho hid hon _ w (fun t ht => by rw [putAll_far ds us T t ht]) (fun j hj hjon => ?_) hb _ fun w' hb' => ?_)
      · unfold waitsV at hj
        rw [ho] at hj
        obtain ⟨e, he, h6⟩ := Array.any_eq_true'.1 hj
        simp only [Bool.and_eq_true, beq_iff_eq] at h6
        obtain ⟨h6, rfl⟩ := h6
        have he' : e ∈ ops[i].after.toList := by simpa using he
        have hlt := o3 e he' h6
        show (putAll T ds us)[ds.getD e.on 0]?.getD undef = _
        rw [hat e.on (by omega), ← List.getD_eq_getElem?_getD]
        exact hdone e he' h6 hjon
      · refine ⟨by simpa using hs, us.set i (vals.getD i undef), by simpa using hu, ?_, hb.trans (hb'.mono hb.size), fun j hj hl hjon => ?_⟩
        · rw [putAll_set ds us T i _ hid hu.symm hn, o1, List.getElem?_eq_getElem hid]
          rfl
        · by_cases hji : j = i
          · subst hji
            rw [List.getD_eq_getElem?_getD, List.getElem?_set_self (by omega)]
            rfl
          · rw [List.getD_eq_getElem?_getD, List.getElem?_set_ne (by omega), ← List.getD_eq_getElem?_getD]
            refine hS j hj ?_ hjon
            rw [Array.getD_eq_getD_getElem?, Array.getElem?_setIfInBounds_ne (by omega), ← Array.getD_eq_getD_getElem?] at hl
            exact hl
    | false =>
      simp only [Bool.false_eq_true, if_false]
      refine ⟨by simpa using hs, us.set i undef, by simpa using hu, ?_, hb, fun j hj hl hjon => ?_⟩
      · rw [putAll_set ds us T i _ hid hu.symm hn, o1, List.getElem?_eq_getElem hid]
        rfl
      by_cases hji : j = i
      · subst hji
        rw [hon] at hjon
        cases hjon
      · rw [List.getD_eq_getElem?_getD, List.getElem?_set_ne (by omega), ← List.getD_eq_getElem?_getD]
        refine hS j hj ?_ hjon
        rw [Array.getD_eq_getD_getElem?, Array.getElem?_setIfInBounds_ne (by omega), ← Array.getD_eq_getD_getElem?] at hl
        exact hl
  · rintro listed a w ⟨hs, us, hu, rfl, hb, hS⟩ hr
    have hall := ready_some (fun i o ho => (hsp i o ho).2.2.2) hr hs
    exact hend us w hu hb fun i hi hon => hS i hi (hall i (by omega)) hon
  · rw [Array.getD_eq_getD_getElem?, Array.getElem?_replicate, if_pos (by omega)] at h
    cases h
  · have hle : ∀ (p : Nat → Bool) n, cntR p n ≤ n := fun p n => by
      induction n with
      | zero => exact Nat.le_refl _
      | succ n ih => rw [cntR]; split <;> omega
    exact hle _ _
end
end Go.Proofs.YtkfcglgikemefaaDoor
