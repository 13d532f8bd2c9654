/-
  A REGION THAT DRAWS ITS ORDER, WITH GUARDS THAT ALL HOLD, BY WHAT EACH OPERATION LEAVES (a predicate of value and memory that stays), whose operations only add to memory; slots in any row. Conditions: as they stand.
-/
import Derived.Test.YtjennlkindbpoaaDoorRv
namespace Go.Proofs.YtjennlkindbpoaaDoor
set_option maxRecDepth 100000
open Go.RowKit
set_option linter.unusedVariables false
section
variable {P : Program} {ops : Array Oper} {Q : Exit → Act → World → Prop}
theorem on_all {n j : Nat} (h : j < n) : (List.replicate n true).getD j false = true := by
  rw [List.getD_eq_getElem?_getD, List.getElem?_replicate, if_pos h]
  rfl
theorem wp_region_kinds3 {id : Nat} (S : Nat → Value → World → Prop) (ds : List Nat) (W : World) (T : Array Value) (hn : ds.Nodup) (hd : ∀ d ∈ ds, d < T.size) (hm : P.follows .mixedOrders = true) (hops : okV ds (List.replicate ds.length true) ops = true)
    (hguard : ∀ (i : Nat) (o : Oper) (j : Nat) (want : Bool), ops[i]? = some o → o.guard = some (j, want) → ∀ v w, S j v w → v = .bool want)
    (hmono : ∀ i v w w', Below w.heap.size w w' → S i v w → S i v w')
    (hstep : ∀ i o, ops[i]? = some o → i < ds.length → ∀ (a : Act) (w : World), (∀ t, t ∉ ds → a.tmps[t]?.getD undef = T[t]?.getD undef) → (∀ j, waitsV ops i j = true → S j (a.tmps[ds.getD j 0]?.getD undef) w) → Below W.heap.size W w →
      ∀ K : Act → World → Prop, (∀ v w', Below w.heap.size w w' → S i v w' → K (a.put o.dst v) w') → Oper.wp P o a w K Q)
    (hend : ∀ (us : List Value) (w : World), us.length = ds.length → Below W.heap.size W w → (∀ i, i < ds.length → S i (us.getD i undef) w) → Q .normal ⟨putAll T ds us, []⟩ w) :
    (Code.region id ops true).wp P Q ⟨T, []⟩ W := by
  obtain ⟨hsz, hsp⟩ := okV_spec hops
  refine wp_region_any hm ?_
  refine wpAny_inv (I := fun listed a w => listed.size = ops.size ∧ ∃ us : List Value, us.length = ds.length ∧ a = ⟨putAll T ds us, []⟩ ∧ Below W.heap.size W w ∧ ∀ i, i < ds.length → listed.getD i true = true → S i (us.getD i undef) w) (fun _ _ _ h => h.1) ?_ ?_ _ _ _ _ ⟨by simp, ds.map fun d => T.getD d undef, by simp, by rw [putAll_id ds T hn hd], (Below.refl _ _).drew, fun i hi h => ?_⟩ ?_
  · rintro listed a w ⟨hs, us, hu, rfl, hb, hS⟩ i hi
    obtain ⟨h1, h2, h3⟩ := ready_of hi
    have ho : ops[i]? = some ops[i] := Array.getElem?_eq_getElem h1
    obtain ⟨o1, o2, o4, o3⟩ := hsp i _ ho
    have hid : i < ds.length := by omega
    have hat : ∀ j, j < ds.length → (putAll T ds us)[ds.getD j 0]? = us[j]? := fun j hj => by
      rw [List.getD_eq_getElem?_getD, List.getElem?_eq_getElem hj]
      exact putAll_at T ds us j hj hu.symm hn (hd _ (List.getElem_mem hj))
    have hdone : ∀ e ∈ ops[i].after.toList, Region.binds .any e = true → S e.on (us.getD e.on undef) w := fun e he hbn => by
      have hlt := o3 e he hbn
      refine hS e.on (by omega) ?_
      have := h3 _ ho e he hbn
      rw [Array.getD_eq_getD_getElem?, Array.getElem?_eq_getElem (by omega)] at this ⊢
      simpa using this
    have hw : Region.wanted ops[i] (yielded ops (putAll T ds us)) = true := by
      cases hg : ops[i].guard with
      | none => simp [Region.wanted, hg]
      | some x =>
        obtain ⟨j, want⟩ := x
        obtain ⟨p1, p2, e, he, hbn, hej⟩ := o4 j want hg
        have hq := hdone e he hbn
        rw [hej] at hq
        have hv := hguard i _ j want ho hg _ _ hq
        have hj : j < ds.length := by omega
        have hg2 := hat j hj
        rw [List.getElem?_eq_getElem (show j < us.length by omega)] at hg2
        rw [List.getD_eq_getElem?_getD, List.getElem?_eq_getElem (show j < us.length by omega)] at hv
        have hdj : ops[j].dst = some (ds.getD j 0) := by
          rw [(hsp j _ (Array.getElem?_eq_getElem p2)).1, List.getD_eq_getElem?_getD, List.getElem?_eq_getElem hj]
          rfl
        have hy : yielded ops (putAll T ds us) j = some want := by
          unfold yielded
          rw [Array.getElem?_eq_getElem p2]
          simp only [Option.bind_some]
          rw [hdj]
          simp only [Option.bind_some]
          rw [hg2]
          simp only [Option.getD_some] at hv
          rw [hv]
        cases want <;> simp [Region.wanted, hg, hy]
    unfold wpOp
    rw [ho]
    simp only [hw, if_true]
    refine .inl (hstep i _ ho hid _ w (fun t ht => by rw [putAll_far ds us T t ht]) (fun j hj => ?_) hb _ fun v w' hb' hv' => ?_)
    · unfold waitsV at hj
      rw [ho] at hj
      obtain ⟨e, he, h6⟩ := Array.any_eq_true'.1 hj
      simp only [Bool.and_eq_true, beq_iff_eq] at h6
      obtain ⟨h6, rfl⟩ := h6
      have he' : e ∈ ops[i].after.toList := by simpa using he
      have hlt := o3 e he' h6
      show S e.on ((putAll T ds us)[ds.getD e.on 0]?.getD undef) w
      rw [hat e.on (by omega), ← List.getD_eq_getElem?_getD]
      exact hdone e he' h6
    · refine ⟨by simpa using hs, us.set i v, by simpa using hu, ?_, hb.trans (hb'.mono hb.size), fun j hj hl => ?_⟩
      · rw [putAll_set ds us T i _ hid hu.symm hn, o1, List.getElem?_eq_getElem hid]
        rfl
      · by_cases hji : j = i
        · subst hji
          rw [List.getD_eq_getElem?_getD, List.getElem?_set_self (by omega)]
          exact hv'
        · rw [List.getD_eq_getElem?_getD, List.getElem?_set_ne (by omega), ← List.getD_eq_getElem?_getD]
          refine hmono _ _ _ _ hb' (hS j hj ?_)
          rw [Array.getD_eq_getD_getElem?, Array.getElem?_setIfInBounds_ne (by omega), ← Array.getD_eq_getD_getElem?] at hl
          exact hl
  · rintro listed a w ⟨hs, us, hu, rfl, hb, hS⟩ hr
    have hall := ready_some (fun i o ho => (hsp i o ho).2.2.2) hr hs
    exact hend us w hu hb fun i hi => hS i hi (hall i (by omega))
  · rw [Array.getD_eq_getD_getElem?, Array.getElem?_replicate, if_pos (by omega)] at h
    cases h
  · have hle : ∀ (p : Nat → Bool) n, cntR p n ≤ n := fun p n => by
      induction n with
      | zero => exact Nat.le_refl _
      | succ n ih => rw [cntR]; split <;> omega
    exact hle _ _
end
end Go.Proofs.YtjennlkindbpoaaDoor
