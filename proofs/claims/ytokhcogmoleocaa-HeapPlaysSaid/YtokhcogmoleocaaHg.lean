/-
  CONTRACTS OF PACKAGE heap: Copy, Same; calls of nil. Conditions: as they stand.
-/
import Derived.Test.YtokhcogmoleocaaHf
namespace Go.Proofs.Ytokhcogmoleocaa
set_option maxRecDepth 100000
open Go.RowKit Go.Deep
set_option linter.unusedVariables false
set_option maxHeartbeats 4000000 in
theorem hcopy_any {w : World} {g : Nat} {c : Nat → Int} (h : HeapAt w g c) : Calls Try.prog 26 #[.pointer (some ⟨g, 0, none⟩)] w fun e w' => e = .returned (.pointer (some ⟨w.heap.size, 0, none⟩)) ∧ HeapAt w' w.heap.size c ∧ Below w.heap.size w w' := by
  have hz := zero_heap
  have HH := Lib.hid h
  clear h
  go_enter Try.func26, Try.ntmps26
  go_wp2_with (first
    | (refine wpList_load_row rfl _ _ rfl g rfl 64 (rowC 100 c) (0, 0) _ HH.out Try.underlying64 rfl (by kernel_rfl) ?_)
    | (refine wpList_store_row rfl 64 _ _ rfl w.heap.size (rowC 100 c) rfl rfl 64 _ (heap_alloc_new w _) (by kernel_rfl) (by kernel_rfl) (rowC_one _ _) ?_)
    | fail)
  go_ret
  exact ⟨rfl, setRow_heap _ _ _ _ _ _ (heap_alloc_new w _), below_setRow ((Below.refl _ _).alloc (Nat.le_refl _) _) (Nat.le_refl _) _⟩
noncomputable def regOpsH (n : Nat) : Code → Option (Array Oper)
  | .region id ops _ => if id == n then some ops else none
  | .seq a b => match regOpsH n a with | some x => some x | none => regOpsH n b
  | .cond _ a b => match regOpsH n a with | some x => some x | none => regOpsH n b
  | .block _ b => regOpsH n b
  | .loop b => regOpsH n b
  | .scope b => regOpsH n b
  | _ => none
noncomputable def opsIn (f : Func) (n : Nat) : Array Oper := match f.body with
  | some c => (regOpsH n c).getD #[]
  | none => #[]
theorem opAtH {ops : Array Oper} {i : Nat} {o : Oper} {x : Op} (ho : ops[i]? = some o) (h : (ops[i]?).map Oper.op = some x) : o.op = x := by
  rw [ho] at h
  exact Option.some.inj h
def waitsH (ops : Array Oper) (i j : Nat) : Bool := match ops[i]? with
  | some o => o.after.any fun e => Region.binds .any e && e.on == j
  | none => false
theorem waitsH_of {ops : Array Oper} {i j : Nat} {o : Oper} {P : Nat → Prop} (ho : ops[i]? = some o) (hd : ∀ e ∈ o.after.toList, Region.binds .any e = true → P e.on) (h : waitsH ops i j = true) : P j := by
  unfold waitsH at h
  rw [ho] at h
  obtain ⟨e, he, h6⟩ := Array.any_eq_true'.1 h
  simp only [Bool.and_eq_true, beq_iff_eq] at h6
  have := hd e (by simpa using he) h6.1
  rwa [h6.2] at this
section
variable {a : Act} {w : World} {K : Act → World → Prop} {Q : Exit → Act → World → Prop} {o : Oper}
theorem h_move (x : Nat) {v : Value} (ho : o.op = Op.move (.tmp x)) (hx : a.tmps[x]?.getD undef = v) (hK : K (a.put o.dst v) w) : Oper.wp Try.prog o a w K Q := by
  obtain ⟨dst, op, type, pos, after, guard⟩ := o
  have ho' : op = _ := ho
  subst ho'
  clear ho
  subst hx
  go_simp
  exact hK
theorem h_assign (x : Nat) {v : Value} (ho : o.op = Op.assign (.tmp x)) (hx : a.tmps[x]?.getD undef = v) (hK : K (a.put o.dst v) w) : Oper.wp Try.prog o a w K Q := by
  obtain ⟨dst, op, type, pos, after, guard⟩ := o
  have ho' : op = _ := ho
  subst ho'
  clear ho
  subst hx
  go_simp
  exact hK
theorem h_nil (x g : Nat) (ho : o.op = Op.nilCheck (.tmp x)) (hx : a.tmps[x]?.getD undef = .pointer (some ⟨g, 0, none⟩)) (hK : K (a.put o.dst (.pointer (some ⟨g, 0, none⟩))) w) : Oper.wp Try.prog o a w K Q := by
  obtain ⟨dst, op, type, pos, after, guard⟩ := o
  have ho' : op = _ := ho
  subst ho'
  clear ho
  go_simp
  exact hK
theorem h_load (x g : Nat) {c : Nat → Int} (h : HeapAt w g c) (ho : o.op = Op.load 64 (.tmp x)) (hx : a.tmps[x]?.getD undef = .pointer (some ⟨g, 0, none⟩)) (hK : K (a.put o.dst (.agg (rowC 100 c))) w) : Oper.wp Try.prog o a w K Q :=
  wp_load_row _ _ ho g (by simpa [Act.eval, Array.getD_eq_getD_getElem?] using hx) 64 (rowC 100 c) (0, 0) _ h Try.underlying64 rfl (by kernel_rfl) hK
theorem h_eql (x y : Nat) {xs ys : Array Value} {r : Bool} (ho : o.op = Op.binOp .eql 64 (.tmp x) (.tmp y) 64) (hx : a.tmps[x]?.getD undef = .agg xs) (hy : a.tmps[y]?.getD undef = .agg ys) (hr : (Go.binOp .eql 64 (.agg xs) (.agg ys)).run Try.prog w = .ok (.bool r) w) (hK : K (a.put o.dst (.bool r)) w) : Oper.wp Try.prog o a w K Q := by
  have hg := run_eqGuard_agg (P := Try.prog) w .eql 64 (.tmp x) (.tmp y) xs ys (by kernel_rfl)
  have ex : a.eval (.tmp x) = .agg xs := by simpa [Act.eval, Array.getD_eq_getD_getElem?] using hx
  have ey : a.eval (.tmp y) = .agg ys := by simpa [Act.eval, Array.getD_eq_getD_getElem?] using hy
  have hrun : (execOp a.eval o).run Try.prog w = .ok (.value (.bool r)) w := by
    unfold execOp
    simp only [ho, ex, ey, Sem.run_bind, hg, hr, Result.andThen_ok, Sem.run_pure]
  unfold Oper.wp
  rw [hrun]
  exact hK
end
/-- A region that draws and only reads: each operation leaves one value. -/
theorem wp_region_vals {P : Program} {ops : Array Oper} {Q : Exit → Act → World → Prop} {id : Nat} (vals : List Value) (ds : List Nat) (W : World) (T : Array Value) (hl : vals.length = ds.length) (hn : ds.Nodup) (hd : ∀ d ∈ ds, d < T.size) (hm : P.follows .mixedOrders = true) (hops : okTail ds ops = true)
    (hstep : ∀ i o, ops[i]? = some o → i < ds.length → ∀ (a : Act), (∀ t v, t ∉ ds → T[t]? = some v → a.tmps[t]?.getD undef = v) → (∀ j, j < ds.length → waitsH ops i j = true → a.tmps[ds.getD j 0]?.getD undef = vals.getD j undef) → ∀ K : Act → World → Prop, K (a.put o.dst (vals.getD i undef)) W.drew → Oper.wp P o a W.drew K Q)
    (hend : wpList P ops Q (ops.toList.drop ds.length) ⟨putAll T ds vals, []⟩ W.drew) : (Code.region id ops true).wp P Q ⟨T, []⟩ W := by
  refine wp_region_st (fun don u w => w = W.drew ∧ ∀ j, j < ds.length → don j = true → u j = vals.getD j undef) ds W T hn hd hm hops (fun u => ⟨rfl, fun j _ h => by cases h⟩) (fun i o ho hi don u a w hT hU hdi hdone hJ K hK => ?_) (fun us w hu hJ => ?_)
  · obtain ⟨rfl, hv⟩ := hJ
    refine hstep i o ho hi a (fun t v ht h => by rw [hT t ht, h]; rfl) (fun j hj hw => ?_) K (hK _ _ ⟨rfl, fun j hj hd => ?_⟩)
    · have hdj : don j = true := waitsH_of (P := fun j => don j = true) ho hdone hw
      rw [hU j hj, hv j hj hdj]
      rfl
    · dsimp only at hd ⊢
      by_cases h : j = i
      · subst h; simp
      · rw [if_neg h]
        rw [beq_eq_false_iff_ne.2 h, Bool.false_or] at hd
        exact hv j hj hd
  · obtain ⟨rfl, hv⟩ := hJ
    have e : us = vals := by
      refine List.ext_getElem (by omega) fun j h1 h2 => ?_
      have := hv j (by omega) (decide_eq_true (by omega))
      dsimp only at this
      rw [List.getD_eq_getElem?_getD, List.getD_eq_getElem?_getD, List.getElem?_eq_getElem h1, List.getElem?_eq_getElem h2] at this
      exact this
    rw [e]
    exact hend
set_option maxHeartbeats 4000000 in
set_option maxRecDepth 100000 in
theorem same_any {w : World} {g g' : Nat} {c c' : Nat → Int} (h : HeapAt w g c) (h' : HeapAt w g' c') : Calls Try.prog 27 #[.pointer (some ⟨g, 0, none⟩), .pointer (some ⟨g', 0, none⟩)] w fun e w' => ∃ r : Bool, e = .returned (.bool r) ∧ (r = true ↔ ∀ j, j < 100 → c j = c' j) ∧ Below w.heap.size w w' := by
  obtain ⟨r, hr, hri⟩ := eq_heap c c' w.drew
  have HR := Lib.hid hr
  have HI := Lib.hid hri
  have HA : Hid (HeapAt w.drew g c) := h
  have HB : Hid (HeapAt w.drew g' c') := h'
  clear h h' hr hri
  go_enter Try.func27, Try.ntmps27
  go_upto_region 3 with fail
  refine wp_region_vals [.pointer (some ⟨g, 0, none⟩), .pointer (some ⟨g, 0, none⟩), .agg (rowC 100 c), .pointer (some ⟨g', 0, none⟩), .pointer (some ⟨g', 0, none⟩), .agg (rowC 100 c'), .bool r, .bool r] [17, 18, 19, 20, 21, 22, 23, 4] w _ rfl (by decide) (by simp) (by kernel_rfl) (by kernel_rfl) (fun i o ho hi a hT hU K hK => ?_) ?_
  · match i, hi with
    | 0, _ => exact h_move 0 (opAtH ho (by kernel_rfl)) (hT 0 _ (by decide) rfl) hK
    | 1, _ => exact h_nil 17 g (opAtH ho (by kernel_rfl)) (hU 0 (by decide) (by kernel_rfl)) hK
    | 2, _ => exact h_load 18 g HA.out (opAtH ho (by kernel_rfl)) (hU 1 (by decide) (by kernel_rfl)) hK
    | 3, _ => exact h_move 1 (opAtH ho (by kernel_rfl)) (hT 1 _ (by decide) rfl) hK
    | 4, _ => exact h_nil 20 g' (opAtH ho (by kernel_rfl)) (hU 3 (by decide) (by kernel_rfl)) hK
    | 5, _ => exact h_load 21 g' HB.out (opAtH ho (by kernel_rfl)) (hU 4 (by decide) (by kernel_rfl)) hK
    | 6, _ => exact h_eql 19 22 (opAtH ho (by kernel_rfl)) (hU 2 (by decide) (by kernel_rfl)) (hU 5 (by decide) (by kernel_rfl)) HR.out hK
    | 7, _ => exact h_assign 23 (opAtH ho (by kernel_rfl)) (hU 6 (by decide) (by kernel_rfl)) hK
    | i + 8, h => exact absurd (show i + 8 < 8 from h) (by omega)
  · simp only [putAll, List.setIfInBounds_toArray, List.set_cons_zero, List.set_cons_succ, List.length_cons, List.length_nil, List.drop_succ_cons, List.drop_zero, wpList]
    go_wp2_with fail
    go_ret
    exact ⟨r, rfl, HI.out, (Below.refl _ _).drew⟩
end Go.Proofs.Ytokhcogmoleocaa
