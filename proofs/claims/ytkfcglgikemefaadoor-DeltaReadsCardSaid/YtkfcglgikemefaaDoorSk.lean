/-
  A REGION THAT DRAWS ITS ORDER, WITH GUARDS, EACH OF WHOSE OPERATIONS LEAVES A KNOWN VALUE, OR NONE (a store); which guards hold is known; memory by a predicate on what is done. Conditions: as they stand.
-/
import Derived.Test.YtkfcglgikemefaaDoorYh
namespace Go.Proofs.YtkfcglgikemefaaDoor
set_option maxRecDepth 100000
open Go.RowKit
set_option linter.unusedVariables false
section
variable {P : Program} {ops : Array Oper} {Q : Exit → Act → World → Prop}
def okT (D : List (Option Nat)) (on : List Bool) (ops : Array Oper) : Bool := decide (ops.size = D.length) && ((List.range ops.size).all fun i => match ops[i]? with
  | some o => o.dst == D.getD i none && (match o.guard with | none => on.getD i false | some (j, _) => on.getD j false && decide (j < ops.size) && (D.getD j none).isSome && o.after.any fun e => Region.binds .any e && e.on == j) && o.after.all fun e => !Region.binds .any e || decide (e.on < i)
  | none => false) && (List.range D.length).all fun i => (List.range D.length).all fun j => i == j || (D.getD i none).isNone || D.getD i none != D.getD j none
theorem okT_spec {D : List (Option Nat)} {on : List Bool} {ops : Array Oper} (h : okT D on ops = true) : ops.size = D.length ∧ (∀ (i : Nat) (o : Oper), ops[i]? = some o → o.dst = D.getD i none ∧ (o.guard = none → on.getD i false = true) ∧ (∀ j want, o.guard = some (j, want) → on.getD j false = true ∧ j < ops.size ∧ (∃ d, D.getD j none = some d) ∧ ∃ e ∈ o.after.toList, Region.binds .any e = true ∧ e.on = j) ∧ ∀ e ∈ o.after.toList, Region.binds .any e = true → e.on < i) ∧ ∀ i j d, D.getD i none = some d → D.getD j none = some d → i = j := by
  unfold okT at h
  rw [Bool.and_eq_true, Bool.and_eq_true, decide_eq_true_eq] at h
  obtain ⟨⟨h0, h1⟩, h2⟩ := h
  refine ⟨h0, fun i o ho => ?_, fun i j d hi hj => ?_⟩
  · have hi : i < ops.size := (Array.getElem?_eq_some_iff.1 ho).1
    have h3 := List.all_eq_true.1 h1 i (by simpa using hi)
    rw [ho] at h3
    simp only [Bool.and_eq_true, beq_iff_eq] at h3
    refine ⟨h3.1.1, fun hg => ?_, fun j want hg => ?_, fun e he hb => ?_⟩
    · have h4 := h3.1.2
      rw [hg] at h4
      exact h4
    · have h4 := h3.1.2
      rw [hg] at h4
      simp only [Bool.and_eq_true, decide_eq_true_eq] at h4
      obtain ⟨⟨⟨a1, a2⟩, a3⟩, a4⟩ := h4
      obtain ⟨e, he, h6⟩ := Array.any_eq_true'.1 a4
      simp only [Bool.and_eq_true, beq_iff_eq] at h6
      exact ⟨a1, a2, Option.isSome_iff_exists.1 a3, e, by simpa using he, h6.1, h6.2⟩
    · have h4 := Array.all_eq_true'.1 h3.2 e (by simpa using he)
      simpa [hb] using h4
  · have li : i < D.length := by
      rcases Nat.lt_or_ge i D.length with h | h
      · exact h
      · rw [List.getD_eq_getElem?_getD, List.getElem?_eq_none h] at hi; cases hi
    have lj : j < D.length := by
      rcases Nat.lt_or_ge j D.length with h | h
      · exact h
      · rw [List.getD_eq_getElem?_getD, List.getElem?_eq_none h] at hj; cases hj
    have h3 := List.all_eq_true.1 (List.all_eq_true.1 h2 i (by simpa using li)) j (by simpa using lj)
    rw [hi, hj] at h3
    simpa using h3
theorem wp_region_valsG {id : Nat} (vals : List Value) (on : List Bool) (D : List (Option Nat)) (M : (Nat → Bool) → World → Prop) (W : World) (T : Array Value) (hn : ((pairsS D vals).map (·.1)).Nodup) (hd : ∀ d ∈ (pairsS D vals).map (·.1), d < T.size) (hm : P.follows .mixedOrders = true) (hops : okT D on ops = true)
    (hguard : ∀ (i : Nat) (o : Oper) (j : Nat) (want : Bool), ops[i]? = some o → o.guard = some (j, want) → vals.getD j undef = .bool (if on.getD i false = true then want else !want))
    (hoff : ∀ i, i < D.length → on.getD i false = false → vals.getD i undef = undef)
    (hskip : ∀ i, i < D.length → on.getD i false = false → ∀ don w, M don w → M (fun j => j == i || don j) w)
    (h0 : M (fun _ => false) W.drew)
    (hstep : ∀ i o, ops[i]? = some o → i < D.length → on.getD i false = true → ∀ (don : Nat → Bool) (a : Act) (w : World), (∀ t, t ∉ (pairsS D vals).map (·.1) → a.tmps[t]?.getD undef = T[t]?.getD undef) → (∀ j, waitsV ops i j = true → don j = true ∧ ∀ d, D.getD j none = some d → a.tmps[d]?.getD undef = vals.getD j undef) → don i = false → M don w →
      ∀ K : Act → World → Prop, (∀ w', M (fun j => j == i || don j) w' → K (a.put o.dst (vals.getD i undef)) w') → Oper.wp P o a w K Q)
    (hend : ∀ w : World, M (fun j => decide (j < D.length)) w → Q .normal ⟨putAll T ((pairsS D vals).map (·.1)) ((pairsS D vals).map (·.2)), []⟩ w) :
    (Code.region id ops true).wp P Q ⟨T, []⟩ W := by
  obtain ⟨hsz, hsp, hinj⟩ := okT_spec hops
  obtain ⟨ds, hds⟩ : ∃ ds, ds = (pairsS D vals).map (·.1) := ⟨_, rfl⟩
  rw [← hds] at hn hd hstep hend
  refine wp_region_any hm ?_
  refine wpAny_inv (I := fun listed a w => listed.size = ops.size ∧ ∃ tm : Array Value, a = ⟨tm, []⟩ ∧ tm.size = T.size ∧ (∀ t, t ∉ ds → tm[t]? = T[t]?) ∧ (∀ i d, D.getD i none = some d → listed.getD i false = true → tm[d]? = some (vals.getD i undef)) ∧ M (fun j => listed.getD j false) w) (fun _ _ _ h => h.1) ?_ ?_ _ _ _ _ ⟨by simp, T, rfl, rfl, fun _ _ => rfl, fun i d _ h => ?_, ?_⟩ ?_
  · rintro listed a w ⟨hs, tm, rfl, hts, hfar, hat, hM⟩ i hi
    obtain ⟨h1, h2, h3⟩ := ready_of hi
    have ho : ops[i]? = some ops[i] := Array.getElem?_eq_getElem h1
    obtain ⟨o1, o2, o4, o3⟩ := hsp i _ ho
    have hid : i < D.length := by omega
    have h2' : listed.getD i false = false := by
      rw [Array.getD_eq_getD_getElem?, Array.getElem?_eq_getElem (by omega)] at h2 ⊢
      simpa using h2
    unfold wpOp
    rw [ho]
    have hw : Region.wanted ops[i] (yielded ops tm) = on.getD i false := by
      cases hg : ops[i].guard with
      | none => rw [o2 hg]; simp [Region.wanted, hg]
      | some x =>
        obtain ⟨j, want⟩ := x
        obtain ⟨p1, p2, ⟨d, hd3⟩, e, he, hbn, hej⟩ := o4 j want hg
        have hv := hguard i _ j want ho hg
        have h7 := h3 _ ho e he hbn
        rw [hej] at h7
        have hq := hat j d hd3 h7
        have hdj : ops[j].dst = some d := by rw [(hsp j _ (Array.getElem?_eq_getElem p2)).1, hd3]
        have hy : yielded ops tm j = some (if on.getD i false = true then want else !want) := by
          unfold yielded
          rw [Array.getElem?_eq_getElem p2]
          simp only [Option.bind_some]
          rw [hdj]
          simp only [Option.bind_some]
          rw [hq, hv]
        cases hon : on.getD i false <;> rw [hon] at hy <;> cases want <;> simp [Region.wanted, hg, hy]
    simp only [hw]
    have hput : ∀ w', M (fun j => j == i || listed.getD j false) w' → ((listed.setIfInBounds i true).size = ops.size ∧ ∃ tm2 : Array Value, (⟨tm, []⟩ : Act).put ops[i].dst (vals.getD i undef) = ⟨tm2, []⟩ ∧ tm2.size = T.size ∧ (∀ t, t ∉ ds → tm2[t]? = T[t]?) ∧ (∀ i_1 d, D.getD i_1 none = some d → (listed.setIfInBounds i true).getD i_1 false = true → tm2[d]? = some (vals.getD i_1 undef)) ∧ M (fun j => (listed.setIfInBounds i true).getD j false) w') := by
      intro w' hM'
      refine ⟨by simpa using hs, ?_⟩
      rw [o1]
      cases hDi : D.getD i none with
      | none =>
        refine ⟨tm, rfl, hts, hfar, fun j d hj hl => ?_, ?_⟩
        · have hji : j ≠ i := by rintro rfl; rw [hDi] at hj; cases hj
          rw [Array.getD_eq_getD_getElem?, Array.getElem?_setIfInBounds_ne (by omega), ← Array.getD_eq_getD_getElem?] at hl
          exact hat j d hj hl
        · rw [don_set (by omega)]
          exact hM'
      | some d0 =>
        have hd0 : d0 ∈ ds := by rw [hds]; exact List.mem_map.2 ⟨_, mem_pairsS (vals := vals) hDi, rfl⟩
        refine ⟨tm.setIfInBounds d0 (vals.getD i undef), rfl, by simpa using hts, fun t ht => ?_, fun j d hj hl => ?_, ?_⟩
        · rw [Array.getElem?_setIfInBounds_ne (by rintro rfl; exact ht hd0)]
          exact hfar t ht
        · by_cases hji : j = i
          · subst hji
            rw [hDi] at hj
            cases hj
            exact Array.getElem?_setIfInBounds_self_of_lt (by rw [hts]; exact hd _ hd0)
          · rw [Array.getD_eq_getD_getElem?, Array.getElem?_setIfInBounds_ne (by omega), ← Array.getD_eq_getD_getElem?] at hl
            rw [Array.getElem?_setIfInBounds_ne (by rintro rfl; exact hji (hinj _ _ _ hj hDi))]
            exact hat j d hj hl
        · rw [don_set (by omega)]
          exact hM'
    cases hon : on.getD i false with
    | true =>
      simp only [if_true]
      refine .inl (hstep i _ ho hid hon _ _ w (fun t ht => by show tm[t]?.getD undef = _; rw [hfar t ht]) (fun j hj => ?_) h2' hM _ fun w' hM' => hput w' hM')
      unfold waitsV at hj
      rw [ho] at hj
      obtain ⟨e, he, h6⟩ := Array.any_eq_true'.1 hj
      simp only [Bool.and_eq_true, beq_iff_eq] at h6
      obtain ⟨h6, rfl⟩ := h6
      have h7 := h3 _ ho e (by simpa using he) h6
      refine ⟨h7, fun d hd' => ?_⟩
      show tm[d]?.getD undef = _
      rw [hat _ d hd' h7]
      rfl
    | false =>
      simp only [Bool.false_eq_true, if_false]
      have h9 := hput w (hskip i hid hon _ _ hM)
      rw [hoff i hid hon] at h9
      exact h9
  · rintro listed a w ⟨hs, tm, rfl, hts, hfar, hat, hM⟩ hr
    have hall := ready_some (fun i o ho => (hsp i o ho).2.2.2) hr hs
    have hfun : (fun j => listed.getD j false) = fun j => decide (j < D.length) := by
      funext j
      by_cases hj : j < D.length
      · have := hall j (by omega)
        rw [Array.getD_eq_getD_getElem?, Array.getElem?_eq_getElem (by omega)] at this ⊢
        rw [decide_eq_true hj]
        simpa using this
      · rw [Array.getD_eq_getD_getElem?, Array.getElem?_eq_none (by omega), decide_eq_false hj]
        rfl
    rw [hfun] at hM
    have htm : tm = putAll T ds ((pairsS D vals).map (·.2)) := by
      apply Array.ext_getElem?
      intro t
      by_cases ht : t ∈ ds
      · obtain ⟨k, hk, hkt⟩ := List.mem_iff_getElem.1 ht
        have hk2 : k < (pairsS D vals).length := by rw [hds] at hk; simpa using hk
        have e1 : ds[k] = ((pairsS D vals)[k]).1 := by simp [hds]
        have hmem := List.getElem_mem hk2
        obtain ⟨i, _, hi⟩ := List.mem_filterMap.1 hmem
        obtain ⟨d2, h2, h3⟩ := Option.map_eq_some_iff.1 hi
        have hd2 : d2 = t := by rw [← hkt, e1, ← h3]
        subst hd2
        have hil : i < D.length := by
          rcases Nat.lt_or_ge i D.length with h | h
          · exact h
          · rw [List.getD_eq_getElem?_getD, List.getElem?_eq_none h] at h2; cases h2
        have h5 := hat i d2 h2 (by
          have h9 : listed.getD i false = decide (i < D.length) := congrFun hfun i
          rw [h9, decide_eq_true hil])
        rw [h5]
        have h6 := putAll_at T ds ((pairsS D vals).map (·.2)) k hk (by rw [hds]; simp) hn (hd _ (List.getElem_mem hk))
        rw [hkt] at h6
        rw [h6, List.getElem?_map, List.getElem?_eq_getElem hk2, ← h3]
        rfl
      · rw [hfar t ht, putAll_far ds _ T t ht]
    rw [htm]
    exact hend w hM
  · rw [Array.getD_eq_getD_getElem?] at h
    by_cases hi : i < ops.size
    · rw [Array.getElem?_replicate, if_pos hi] at h
      cases h
    · rw [Array.getElem?_replicate, if_neg hi] at h
      cases h
  · have : (fun j => (Array.replicate ops.size false).getD j false) = fun _ => false := by
      funext j
      rw [Array.getD_eq_getD_getElem?, Array.getElem?_replicate]
      split <;> rfl
    rw [this]
    exact h0
  · have hle : ∀ (p : Nat → Bool) n, cntR p n ≤ n := fun p n => by
      induction n with
      | zero => exact Nat.le_refl _
      | succ n ih => rw [cntR]; split <;> omega
    exact hle _ _
end
end Go.Proofs.YtkfcglgikemefaaDoor
