/-
  FOR THE LAWS OF LAYER 13: writes, works: what each statement asks first is so. Laid by gen/gen_oh.py. Conditions: CheckC.
-/
import Derived.Test.YtjennlkindbpoaaDoorOf
import Derived.Test.YtjennlkindbpoaaDoorOg
import Derived.Test.YtjennlkindbpoaaDoorRw
namespace Go.Proofs.YtjennlkindbpoaaDoor
set_option maxRecDepth 100000
open Go.RowKit
set_option linter.unusedVariables false
theorem ev_okO (e : Ev) (h : (decide (0 ≤ e.kd) && decide (e.kd ≤ 255) && decide (0 ≤ e.why) && decide (e.why ≤ 255) && decide (-9223372036854775808 ≤ e.th) && decide (e.th ≤ 9223372036854775807) && decide (-9223372036854775808 ≤ e.tx) && decide (e.tx ≤ 9223372036854775807) && decide (-9223372036854775808 ≤ e.pl) && decide (e.pl ≤ 9223372036854775807) && decide (-9223372036854775808 ≤ e.v) && decide (e.v ≤ 9223372036854775807) && decide (-9223372036854775808 ≤ e.x) && decide (e.x ≤ 9223372036854775807)) = true) : EvOk e := by
  simp only [Bool.and_eq_true, decide_eq_true_eq] at h
  constructor <;> omega
def okL (l : List Ev) : Bool := l.all fun e => decide (0 ≤ e.kd) && decide (e.kd ≤ 255) && decide (0 ≤ e.why) && decide (e.why ≤ 255) && decide (-9223372036854775808 ≤ e.th) && decide (e.th ≤ 9223372036854775807) && decide (-9223372036854775808 ≤ e.tx) && decide (e.tx ≤ 9223372036854775807) && decide (-9223372036854775808 ≤ e.pl) && decide (e.pl ≤ 9223372036854775807) && decide (-9223372036854775808 ≤ e.v) && decide (e.v ≤ 9223372036854775807) && decide (-9223372036854775808 ≤ e.x) && decide (e.x ≤ 9223372036854775807)
theorem ok_of {l : List Ev} (h : okL l = true) : ∀ e ∈ l, EvOk e := fun e he => ev_okO e (List.all_eq_true.1 h e he)
/-- A slice of these events, in a row of its own. -/
def SlE (l : List Ev) (v : Value) (w : World) : Prop := ∃ g, v = .slice (some ⟨g, 0, none⟩) l.length l.length ∧ w.heap[g]? = some (.cells (evsC l).toArray 27 (0, 0))
def SlT (l : List Ev) (v : Value) (w : World) : Prop := ∃ g, v = trV 3 4 2 (some ⟨g, 0, none⟩) l.length l.length ∧ w.heap[g]? = some (.cells (evsC l).toArray 27 (0, 0))
theorem SlE.stays {l : List Ev} {v : Value} {w w' : World} (h : SlE l v w) (b : Below w.heap.size w w') : SlE l v w' := by
  obtain ⟨g, h1, h2⟩ := h
  exact ⟨g, h1, row_stays h2 b⟩
theorem SlT.stays {l : List Ev} {v : Value} {w w' : World} (h : SlT l v w) (b : Below w.heap.size w w') : SlT l v w' := by
  obtain ⟨g, h1, h2⟩ := h
  exact ⟨g, h1, row_stays h2 b⟩
theorem evsC_cells (l : List Ev) (k : Nat) : (evsC l)[k]? = if k < l.length * 7 then (evC (nthE l (k / 7)))[k % 7]? else none := by
  by_cases h : k < l.length * 7
  · rw [if_pos h]
    have := evsC_at l (k / 7) (k % 7) (by omega) (by omega)
    rwa [show k / 7 * 7 + k % 7 = k by omega] at this
  · rw [if_neg h, List.getElem?_eq_none (by rw [evsC_len]; omega)]
section
variable {a : Act} {w : World} {K : Act → World → Prop} {Q : Exit → Act → World → Prop} {o : Oper}
theorem u_evs : Tryd.prog.underlying 33 = some (.slice 27) := by kernel_rfl
theorem e_cells (l : List Ev) (h0 : 0 < l.length) (h1 : l.length ≤ 1000) (parts : List (Nat × Value)) (hp : parts = ((l.map evV).zipIdx 0).map fun x => (x.2, x.1)) : ∃ ie, Tryd.prog.info? 27 = some ie ∧ ie.size = 7 ∧ ie.zero = some (evV ev0) ∧ Instr.fill (fun i => some (i * ie.size, ie.size)) ((Array.range (l.length * ie.size)).map ((evV ev0).cells[· % (evV ev0).cells.size]!)) parts = some (evsC l).toArray := by
  obtain ⟨ie, hie, hz1, hz2, _⟩ : ∃ ie, Tryd.prog.info? 27 = some ie ∧ ie.size = 7 ∧ ie.zero = some (evV ev0) ∧ True := ⟨_, rfl, rfl, rfl, trivial⟩
  obtain ⟨r, hr, hs, hk⟩ := Great.fill_dense (s := 7) (by decide) (l.map evV) 0 ((Array.range (l.length * 7)).map ((evV ev0).cells[· % (evV ev0).cells.size]!)) (fun v hv => by obtain ⟨r, _, rfl⟩ := List.mem_map.1 hv; rfl) (by simp)
  refine ⟨ie, hie, hz1, hz2, ?_⟩
  rw [hp, hz1, hr]
  congr 1
  apply Array.ext_getElem?
  intro k
  have e : (evsC l).toArray[k]? = (evsC l)[k]? := by simp
  rw [hk, e, evsC_cells]
  by_cases hlt : k < l.length * 7
  · rw [if_pos ⟨by omega, by simpa using hlt⟩, if_pos hlt, Nat.sub_zero, List.getElem?_map, nthE_of (by omega : k / 7 < l.length)]
    rfl
  · rw [if_neg (by simp; omega), if_neg hlt, Array.getElem?_eq_none (by simp; omega)]
theorem e_slice (l : List Ev) (parts : Array (Nat × Operand)) (ho : o.op = .buildSlice 33 l.length parts) (h0 : 0 < l.length) (h1 : l.length ≤ 1000) (hp : (parts.map fun (i, x) => (i, a.eval x)).toList = ((l.map evV).zipIdx 0).map fun x => (x.2, x.1))
    (hK : ∀ v w', Below w.heap.size w w' → SlE l v w' → K (a.put o.dst v) w') : Oper.wp Tryd.prog o a w K Q := by
  obtain ⟨ie, hie, hz1, hz2, hf⟩ := e_cells l h0 h1 _ hp
  refine wp_buildSlice 33 27 l.length parts ho _ ie _ u_evs hie hz2 (by rw [hz1]; omega) (by rw [hz1]; omega) hf (hK _ _ ((Below.refl _ _).alloc (Nat.le_refl _) _) ⟨_, rfl, heap_alloc_new w _⟩)
theorem o_ev {u : Value} {k p v : Int} (ho : o.op = .call { callee := .value (.func 7), args := #[.const (.int .u8 k), .const (.int .i64 p), .const (.int .i64 v)], argTypes := #[5, 3, 3] })  (hc : Calls Tryd.prog 7 #[.int .u8 k, .int .i64 p, .int .i64 v] w fun r w' => r = .returned u ∧ Below w.heap.size w w') (hK : ∀ w', Below w.heap.size w w' → K (a.put o.dst u) w') : Oper.wp Tryd.prog o a w K Q := by
  obtain ⟨dst, op, type, pos, after, guard⟩ := o
  have ho' : op = _ := ho
  subst ho'
  clear ho
  have h1 := Tryd.func7
  have HC := Lib.hid hc
  clear hc
  go_simp
  refine HC.out.mono ?_
  rintro r w' ⟨rfl, hb⟩
  exact hK w' hb
theorem o_by (x : Nat) {u v : Value} {p : Int} (ho : o.op = .call { callee := .value (.func 17), args := #[.const (.int .i64 p), .tmp x], argTypes := #[3, 27] }) (hx : a.tmps[x]?.getD undef = v) (hc : Calls Tryd.prog 17 #[.int .i64 p, v] w fun r w' => r = .returned u ∧ Below w.heap.size w w') (hK : ∀ w', Below w.heap.size w w' → K (a.put o.dst u) w') : Oper.wp Tryd.prog o a w K Q := by
  obtain ⟨dst, op, type, pos, after, guard⟩ := o
  have ho' : op = _ := ho
  subst ho'
  clear ho
  have h1 := Tryd.func17
  have HC := Lib.hid hc
  clear hc
  go_simp
  refine HC.out.mono ?_
  rintro r w' ⟨rfl, hb⟩
  exact hK w' hb
theorem o_over (x : Nat) {u v : Value} (ho : o.op = .call { callee := .value (.func 18), args := #[.tmp x], argTypes := #[33] }) (hx : a.tmps[x]?.getD undef = v) (hc : Calls Tryd.prog 18 #[v] w fun r w' => r = .returned u ∧ Below w.heap.size w w') (hK : ∀ w', Below w.heap.size w w' → K (a.put o.dst u) w') : Oper.wp Tryd.prog o a w K Q := by
  obtain ⟨dst, op, type, pos, after, guard⟩ := o
  have ho' : op = _ := ho
  subst ho'
  clear ho
  have h1 := Tryd.func18
  have HC := Lib.hid hc
  clear hc
  go_simp
  refine HC.out.mono ?_
  rintro r w' ⟨rfl, hb⟩
  exact hK w' hb
theorem o_fine (x : Nat) {u v : Value} (ho : o.op = .call { callee := .value (.func 15), args := #[.tmp x], argTypes := #[35] }) (hx : a.tmps[x]?.getD undef = v) (hc : Calls Tryd.prog 15 #[v] w fun r w' => r = .returned u ∧ Below w.heap.size w w') (hK : ∀ w', Below w.heap.size w w' → K (a.put o.dst u) w') : Oper.wp Tryd.prog o a w K Q := by
  obtain ⟨dst, op, type, pos, after, guard⟩ := o
  have ho' : op = _ := ho
  subst ho'
  clear ho
  have h1 := Tryd.func15
  have HC := Lib.hid hc
  clear hc
  go_simp
  refine HC.out.mono ?_
  rintro r w' ⟨rfl, hb⟩
  exact hK w' hb
theorem o_bad (x : Nat) {u v : Value} (ho : o.op = .call { callee := .value (.func 16), args := #[.tmp x], argTypes := #[33] }) (hx : a.tmps[x]?.getD undef = v) (hc : Calls Tryd.prog 16 #[v] w fun r w' => r = .returned u ∧ Below w.heap.size w w') (hK : ∀ w', Below w.heap.size w w' → K (a.put o.dst u) w') : Oper.wp Tryd.prog o a w K Q := by
  obtain ⟨dst, op, type, pos, after, guard⟩ := o
  have ho' : op = _ := ho
  subst ho'
  clear ho
  have h1 := Tryd.func16
  have HC := Lib.hid hc
  clear hc
  go_simp
  refine HC.out.mono ?_
  rintro r w' ⟨rfl, hb⟩
  exact hK w' hb
theorem o_writes {S : Value → World → Prop} {p : Int} (ho : o.op = .call { callee := .value (.func 19), args := #[.const (.int .i64 p)], argTypes := #[3] }) (hc : Calls Tryd.prog 19 #[.int .i64 p] w fun r w' => ∃ u, r = .returned u ∧ S u w' ∧ Below w.heap.size w w') (hK : ∀ u w', Below w.heap.size w w' → S u w' → K (a.put o.dst u) w') : Oper.wp Tryd.prog o a w K Q := by
  obtain ⟨dst, op, type, pos, after, guard⟩ := o
  have ho' : op = _ := ho
  subst ho'
  clear ho
  have h1 := Tryd.func19
  have HC := Lib.hid hc
  clear hc
  go_simp
  refine HC.out.mono ?_
  rintro r w' ⟨u, rfl, hs, hb⟩
  exact hK u w' hb hs
end
def writesF : List Ev := [⟨1, 0, 0, 0, 0, 0, 0⟩, ⟨4, 0, 0, 0, 0, 0, 0⟩, ⟨5, 0, 0, 0, 1, 0, 0⟩, ⟨7, 0, 0, 0, 1, 0, 0⟩, ⟨8, 0, 0, 0, 0, 0, 0⟩, ⟨9, 0, 0, 0, 0, 0, 0⟩]
set_option maxHeartbeats 1000000 in
theorem writes_any (w : World) :
    Calls Tryd.prog 19 #[.int .i64 0] w fun r w' => ∃ u, r = .returned u ∧ SlE writesF u w' ∧ Below w.heap.size w w' := by
  have H := Lib.hid (fun k p v w1 => ev_any k p v w1)
  unfold evV at H
  simp only at H
  have HF : Hid (∃ ie, Tryd.prog.info? 27 = some ie ∧ ie.size = 7 ∧ ie.zero = some (evV ev0) ∧ Instr.fill (fun i => some (i * ie.size, ie.size)) ((Array.range (writesF.length * ie.size)).map ((evV ev0).cells[· % (evV ev0).cells.size]!)) (((writesF.map evV).zipIdx 0).map fun x => (x.2, x.1)) = some (evsC writesF).toArray) := e_cells writesF (by decide) (by decide) _ rfl
  go_enter Tryd.func19, Tryd.ntmps19
  go_wp2_with fail
  refine (H.out 1 0 0 w).mono ?_
  rintro _ w1 ⟨rfl, c1⟩
  have B1 := Lib.hid c1
  clear c1
  go_wp2_with fail
  refine (H.out 4 0 0 w1).mono ?_
  rintro _ w2 ⟨rfl, c2⟩
  have B2 : Hid (Below w.heap.size w w2) := B1.out.trans (c2.mono B1.out.size)
  clear c2
  go_wp2_with fail
  refine (H.out 5 0 1 w2).mono ?_
  rintro _ w3 ⟨rfl, c3⟩
  have B3 : Hid (Below w.heap.size w w3) := B2.out.trans (c3.mono B2.out.size)
  clear c3
  go_wp2_with fail
  refine (H.out 7 0 1 w3).mono ?_
  rintro _ w4 ⟨rfl, c4⟩
  have B4 : Hid (Below w.heap.size w w4) := B3.out.trans (c4.mono B3.out.size)
  clear c4
  go_wp2_with fail
  refine (H.out 8 0 0 w4).mono ?_
  rintro _ w5 ⟨rfl, c5⟩
  have B5 : Hid (Below w.heap.size w w5) := B4.out.trans (c5.mono B4.out.size)
  clear c5
  go_wp2_with fail
  refine (H.out 9 0 0 w5).mono ?_
  rintro _ w6 ⟨rfl, c6⟩
  have B6 : Hid (Below w.heap.size w w6) := B5.out.trans (c6.mono B5.out.size)
  clear c6
  obtain ⟨ie, hie, hz1, hz2, hf⟩ := HF.out
  go_wp2_with (first
    | (refine wpList_buildSlice rfl 33 27 6 _ rfl (evsC writesF).toArray ie _ u_evs hie hz2 (by rw [hz1]; omega) (by rw [hz1]; omega) hf ?_)
    | fail)
  go_ret
  exact ⟨_, rfl, ⟨_, rfl, heap_alloc_new w6 _⟩, B6.out.alloc B6.out.size _⟩
def SWk : Nat → Value → World → Prop
  | 0, v, w => v = evV ⟨1, 0, 0, 0, 0, 0, 0⟩
  | 1, v, w => v = evV ⟨7, 0, 0, 0, 0, 0, 0⟩
  | 2, v, w => SlE [⟨1, 0, 0, 0, 0, 0, 0⟩, ⟨7, 0, 0, 0, 0, 0, 0⟩] v w
  | 3, v, w => SlT [⟨1, 0, 0, 0, 0, 0, 0⟩, ⟨7, 0, 0, 0, 0, 0, 0⟩] v w
  | 4, v, w => v = .bool true
  | 5, v, w => v = .bool true
  | 6, v, w => v = evV ⟨1, 0, 0, 0, 0, 0, 0⟩
  | 7, v, w => v = evV ⟨2, 0, 0, 0, 0, 0, 0⟩
  | 8, v, w => v = evV ⟨3, 0, 0, 2, 0, 0, 0⟩
  | 9, v, w => v = evV ⟨4, 0, 0, 0, 0, 0, 0⟩
  | 10, v, w => v = evV ⟨5, 0, 0, 0, 1, 0, 0⟩
  | 11, v, w => v = evV ⟨7, 0, 0, 0, 1, 0, 0⟩
  | 12, v, w => SlE [⟨1, 0, 0, 0, 0, 0, 0⟩, ⟨2, 0, 0, 0, 0, 0, 0⟩, ⟨3, 0, 0, 2, 0, 0, 0⟩, ⟨4, 0, 0, 0, 0, 0, 0⟩, ⟨5, 0, 0, 0, 1, 0, 0⟩, ⟨7, 0, 0, 0, 1, 0, 0⟩] v w
  | 13, v, w => SlT [⟨1, 0, 0, 0, 0, 0, 0⟩, ⟨2, 0, 0, 0, 0, 0, 0⟩, ⟨3, 0, 0, 2, 0, 0, 0⟩, ⟨4, 0, 0, 0, 0, 0, 0⟩, ⟨5, 0, 0, 0, 1, 0, 0⟩, ⟨7, 0, 0, 0, 1, 0, 0⟩] v w
  | 14, v, w => v = .bool true
  | 15, v, w => v = .bool true
  | 16, v, w => v = .bool true
  | 17, v, w => v = evV ⟨2, 0, 0, 0, 0, 0, 0⟩
  | 18, v, w => SlE [⟨2, 0, 0, 0, 0, 0, 0⟩] v w
  | 19, v, w => v = .bool true
  | 20, v, w => v = .bool true
  | 21, v, w => v = .bool true
  | 22, v, w => v = evV ⟨1, 0, 0, 0, 0, 0, 0⟩
  | 23, v, w => v = evV ⟨1, 0, 0, 0, 0, 0, 0⟩
  | 24, v, w => v = evV ⟨1, 1, 0, 0, 0, 0, 0⟩
  | 25, v, w => v = evV ⟨4, 0, 0, 0, 0, 0, 0⟩
  | 26, v, w => v = evV ⟨4, 0, 0, 0, 0, 0, 0⟩
  | 27, v, w => v = evV ⟨4, 1, 0, 0, 0, 0, 0⟩
  | 28, v, w => SlE [⟨1, 0, 0, 0, 0, 0, 0⟩, ⟨1, 1, 0, 0, 0, 0, 0⟩, ⟨4, 0, 0, 0, 0, 0, 0⟩, ⟨4, 1, 0, 0, 0, 0, 0⟩] v w
  | 29, v, w => v = .bool true
  | 30, v, w => v = .bool true
  | 31, v, w => v = .bool true
  | 32, v, w => SlE writesF v w
  | 33, v, w => SlT writesF v w
  | 34, v, w => v = .bool true
  | 35, v, w => v = .bool true
  | 36, v, w => v = .bool true
  | _ + 37, _, _ => False
theorem SWk.mono (i : Nat) (v : Value) (w w' : World) (b : Below w.heap.size w w') (h : SWk i v w) : SWk i v w' := by
  match i, h with
  | 0, h => exact h
  | 1, h => exact h
  | 2, h => exact h.stays b
  | 3, h => exact h.stays b
  | 4, h => exact h
  | 5, h => exact h
  | 6, h => exact h
  | 7, h => exact h
  | 8, h => exact h
  | 9, h => exact h
  | 10, h => exact h
  | 11, h => exact h
  | 12, h => exact h.stays b
  | 13, h => exact h.stays b
  | 14, h => exact h
  | 15, h => exact h
  | 16, h => exact h
  | 17, h => exact h
  | 18, h => exact h.stays b
  | 19, h => exact h
  | 20, h => exact h
  | 21, h => exact h
  | 22, h => exact h
  | 23, h => exact h
  | 24, h => exact h
  | 25, h => exact h
  | 26, h => exact h
  | 27, h => exact h
  | 28, h => exact h.stays b
  | 29, h => exact h
  | 30, h => exact h
  | 31, h => exact h
  | 32, h => exact h.stays b
  | 33, h => exact h.stays b
  | 34, h => exact h
  | 35, h => exact h
  | 36, h => exact h
noncomputable def regWk_ops : Array Oper := opsW Tryd.f5 2
def regWk_ds : List Nat := [3, 4, 5, 6, 7, 8, 9, 10, 11, 12, 13, 14, 15, 16, 17, 18, 19, 20, 21, 22, 23, 24, 25, 26, 27, 28, 29, 30, 31, 32, 33, 34, 35, 36, 37, 38, 0]
set_option maxRecDepth 100000 in
set_option maxHeartbeats 4000000 in
theorem regWk {Tb : World → Prop} (HC : CheckC Tb) {id : Nat} {ops : Array Oper} (hops : ops = regWk_ops) (T0 : Array Value) (hsz : 39 ≤ T0.size) (W : World) (ht : Tb W) (g1 : Nat) (hg : W.heap[g1]? = some (.cells (evC ⟨1, 0, 0, 0, 0, 0, 0⟩) 27 (0, 0))) (h1 : T0[1]? = some (.pointer (some ⟨g1, 0, none⟩))) {Q : Exit → Act → World → Prop}
    (hend : ∀ (us : List Value) (w : World), us.length = 37 → Below W.heap.size W w → us.getD 36 undef = .bool true → Q .normal ⟨putAll T0 regWk_ds us, []⟩ w) : (Code.region id ops true).wp Tryd.prog Q ⟨T0, []⟩ W := by
  subst hops
  have hos : regWk_ops.size = 37 := by kernel_rfl
  have i2 : i64P 2 := by unfold i64P; omega
  have i3 : i64P 3 := by unfold i64P; omega
  have i4 : i64P 4 := by unfold i64P; omega
  have hga : (List.range 37).all (fun i => match regWk_ops[i]? with | some o => o.guard == ([none, none, none, none, none, none, some (5, true), some (5, true), some (5, true), some (5, true), some (5, true), some (5, true), some (5, true), some (5, true), some (5, true), none, none, some (16, true), some (16, true), some (16, true), none, none, some (21, true), some (21, true), some (21, true), some (21, true), some (21, true), some (21, true), some (21, true), some (21, true), none, none, some (31, true), some (31, true), some (31, true), none, none] : List (Option (Nat × Bool))).getD i none | none => false) = true := by kernel_rfl
  refine wp_region_kinds3 SWk regWk_ds W T0 (by decide) (fun x hx => ?_) (by kernel_rfl) (by kernel_rfl) (fun i o j want ho hgd => ?_) SWk.mono ?_ ?_
  · have hall : (regWk_ds.all fun d => decide (d < 39)) = true := by decide
    have := List.all_eq_true.1 hall x hx
    simp only [decide_eq_true_eq] at this
    omega
  · have hi : i < 37 := by rw [← hos]; exact (Array.getElem?_eq_some_iff.1 ho).1
    have h1 := List.all_eq_true.1 hga i (by simpa using hi)
    rw [ho] at h1
    simp only [hgd, beq_iff_eq] at h1
    match i, hi with
    | 0, _ => cases h1
    | 1, _ => cases h1
    | 2, _ => cases h1
    | 3, _ => cases h1
    | 4, _ => cases h1
    | 5, _ => cases h1
    | 6, _ => obtain ⟨rfl, rfl⟩ := Prod.mk.inj (Option.some.inj h1); exact fun v w h => h
    | 7, _ => obtain ⟨rfl, rfl⟩ := Prod.mk.inj (Option.some.inj h1); exact fun v w h => h
    | 8, _ => obtain ⟨rfl, rfl⟩ := Prod.mk.inj (Option.some.inj h1); exact fun v w h => h
    | 9, _ => obtain ⟨rfl, rfl⟩ := Prod.mk.inj (Option.some.inj h1); exact fun v w h => h
    | 10, _ => obtain ⟨rfl, rfl⟩ := Prod.mk.inj (Option.some.inj h1); exact fun v w h => h
    | 11, _ => obtain ⟨rfl, rfl⟩ := Prod.mk.inj (Option.some.inj h1); exact fun v w h => h
    | 12, _ => obtain ⟨rfl, rfl⟩ := Prod.mk.inj (Option.some.inj h1); exact fun v w h => h
    | 13, _ => obtain ⟨rfl, rfl⟩ := Prod.mk.inj (Option.some.inj h1); exact fun v w h => h
    | 14, _ => obtain ⟨rfl, rfl⟩ := Prod.mk.inj (Option.some.inj h1); exact fun v w h => h
    | 15, _ => cases h1
    | 16, _ => cases h1
    | 17, _ => obtain ⟨rfl, rfl⟩ := Prod.mk.inj (Option.some.inj h1); exact fun v w h => h
    | 18, _ => obtain ⟨rfl, rfl⟩ := Prod.mk.inj (Option.some.inj h1); exact fun v w h => h
    | 19, _ => obtain ⟨rfl, rfl⟩ := Prod.mk.inj (Option.some.inj h1); exact fun v w h => h
    | 20, _ => cases h1
    | 21, _ => cases h1
    | 22, _ => obtain ⟨rfl, rfl⟩ := Prod.mk.inj (Option.some.inj h1); exact fun v w h => h
    | 23, _ => obtain ⟨rfl, rfl⟩ := Prod.mk.inj (Option.some.inj h1); exact fun v w h => h
    | 24, _ => obtain ⟨rfl, rfl⟩ := Prod.mk.inj (Option.some.inj h1); exact fun v w h => h
    | 25, _ => obtain ⟨rfl, rfl⟩ := Prod.mk.inj (Option.some.inj h1); exact fun v w h => h
    | 26, _ => obtain ⟨rfl, rfl⟩ := Prod.mk.inj (Option.some.inj h1); exact fun v w h => h
    | 27, _ => obtain ⟨rfl, rfl⟩ := Prod.mk.inj (Option.some.inj h1); exact fun v w h => h
    | 28, _ => obtain ⟨rfl, rfl⟩ := Prod.mk.inj (Option.some.inj h1); exact fun v w h => h
    | 29, _ => obtain ⟨rfl, rfl⟩ := Prod.mk.inj (Option.some.inj h1); exact fun v w h => h
    | 30, _ => cases h1
    | 31, _ => cases h1
    | 32, _ => obtain ⟨rfl, rfl⟩ := Prod.mk.inj (Option.some.inj h1); exact fun v w h => h
    | 33, _ => obtain ⟨rfl, rfl⟩ := Prod.mk.inj (Option.some.inj h1); exact fun v w h => h
    | 34, _ => obtain ⟨rfl, rfl⟩ := Prod.mk.inj (Option.some.inj h1); exact fun v w h => h
    | 35, _ => cases h1
    | 36, _ => cases h1
    | i + 37, h => exact absurd (show i + 37 < 37 from h) (by omega)
  · intro i o ho hi a w hT hW hb K hK
    have hT1 : ∀ (a : Act), (∀ t, t ∉ regWk_ds → a.tmps[t]?.getD undef = T0[t]?.getD undef) → a.tmps[1]?.getD undef = .pointer (some ⟨g1, 0, none⟩) := fun a hT => by rw [hT 1 (by decide), h1]; rfl
    match i, hi with
    | 0, _ =>
      exact v_loadE 1 (opAtW ho (by kernel_rfl)) (hT1 a hT) (row_stays hg hb) rfl (hK _ _ (Below.refl _ _) rfl)
    | 1, _ =>
      exact o_ev (opAtW ho (by kernel_rfl)) (ev_any 7 0 0 w) (fun w' hb' => hK _ w' hb' rfl)
    | 2, _ =>
      have p3 : a.tmps[3]?.getD undef = evV ⟨1, 0, 0, 0, 0, 0, 0⟩ := (hW 0 (by kernel_rfl))
      have p4 : a.tmps[4]?.getD undef = evV ⟨7, 0, 0, 0, 0, 0, 0⟩ := (hW 1 (by kernel_rfl))
      exact e_slice [⟨1, 0, 0, 0, 0, 0, 0⟩, ⟨7, 0, 0, 0, 0, 0, 0⟩] #[(0, .tmp 3), (1, .tmp 4)] (opAtW ho (by kernel_rfl)) (by decide) (by decide) (by simp [Act.eval, p3, p4]) (fun v w' hb' hs => hK v w' hb' hs)
    | 3, _ =>
      obtain ⟨g, hv, hr⟩ := (hW 2 (by kernel_rfl))
      exact o_over 5 (opAtW ho (by kernel_rfl)) hv (over_any _ _ _ w) (fun w' hb' => hK _ w' hb' ⟨g, rfl, row_stays hr hb'⟩)
    | 4, _ =>
      obtain ⟨g, hv, hr⟩ := (hW 3 (by kernel_rfl))
      have hfb : fineB 3 4 2 [⟨1, 0, 0, 0, 0, 0, 0⟩, ⟨7, 0, 0, 0, 0, 0, 0⟩] = true := by kernel_rfl
      have h9 := fine_any HC w (HC.below W w ht hb) 3 4 2 (some ⟨g, 0, none⟩) [⟨1, 0, 0, 0, 0, 0, 0⟩, ⟨7, 0, 0, 0, 0, 0, 0⟩] (List.length (α := Ev) [⟨1, 0, 0, 0, 0, 0, 0⟩, ⟨7, 0, 0, 0, 0, 0, 0⟩]) i3 i4 i2 (by decide) (EvsAt.row hr (Array.getElem?_eq_some_iff.1 hr).1 (ok_of (by kernel_rfl)))
      rw [hfb] at h9
      exact o_fine 6 (opAtW ho (by kernel_rfl)) hv h9 (fun w' hb' => hK _ w' hb' rfl)
    | 5, _ =>
      exact v_move 7 (opAtW ho (by kernel_rfl)) (hW 4 (by kernel_rfl)) (hK _ _ (Below.refl _ _) rfl)
    | 6, _ =>
      exact v_loadE 1 (opAtW ho (by kernel_rfl)) (hT1 a hT) (row_stays hg hb) rfl (hK _ _ (Below.refl _ _) rfl)
    | 7, _ =>
      exact o_ev (opAtW ho (by kernel_rfl)) (ev_any 2 0 0 w) (fun w' hb' => hK _ w' hb' rfl)
    | 8, _ =>
      exact o_ev (opAtW ho (by kernel_rfl)) (ev_any 3 2 0 w) (fun w' hb' => hK _ w' hb' rfl)
    | 9, _ =>
      exact o_ev (opAtW ho (by kernel_rfl)) (ev_any 4 0 0 w) (fun w' hb' => hK _ w' hb' rfl)
    | 10, _ =>
      exact o_ev (opAtW ho (by kernel_rfl)) (ev_any 5 0 1 w) (fun w' hb' => hK _ w' hb' rfl)
    | 11, _ =>
      exact o_ev (opAtW ho (by kernel_rfl)) (ev_any 7 0 1 w) (fun w' hb' => hK _ w' hb' rfl)
    | 12, _ =>
      have p9 : a.tmps[9]?.getD undef = evV ⟨1, 0, 0, 0, 0, 0, 0⟩ := (hW 6 (by kernel_rfl))
      have p10 : a.tmps[10]?.getD undef = evV ⟨2, 0, 0, 0, 0, 0, 0⟩ := (hW 7 (by kernel_rfl))
      have p11 : a.tmps[11]?.getD undef = evV ⟨3, 0, 0, 2, 0, 0, 0⟩ := (hW 8 (by kernel_rfl))
      have p12 : a.tmps[12]?.getD undef = evV ⟨4, 0, 0, 0, 0, 0, 0⟩ := (hW 9 (by kernel_rfl))
      have p13 : a.tmps[13]?.getD undef = evV ⟨5, 0, 0, 0, 1, 0, 0⟩ := (hW 10 (by kernel_rfl))
      have p14 : a.tmps[14]?.getD undef = evV ⟨7, 0, 0, 0, 1, 0, 0⟩ := (hW 11 (by kernel_rfl))
      exact e_slice [⟨1, 0, 0, 0, 0, 0, 0⟩, ⟨2, 0, 0, 0, 0, 0, 0⟩, ⟨3, 0, 0, 2, 0, 0, 0⟩, ⟨4, 0, 0, 0, 0, 0, 0⟩, ⟨5, 0, 0, 0, 1, 0, 0⟩, ⟨7, 0, 0, 0, 1, 0, 0⟩] #[(0, .tmp 9), (1, .tmp 10), (2, .tmp 11), (3, .tmp 12), (4, .tmp 13), (5, .tmp 14)] (opAtW ho (by kernel_rfl)) (by decide) (by decide) (by simp [Act.eval, p9, p10, p11, p12, p13, p14]) (fun v w' hb' hs => hK v w' hb' hs)
    | 13, _ =>
      obtain ⟨g, hv, hr⟩ := (hW 12 (by kernel_rfl))
      exact o_over 15 (opAtW ho (by kernel_rfl)) hv (over_any _ _ _ w) (fun w' hb' => hK _ w' hb' ⟨g, rfl, row_stays hr hb'⟩)
    | 14, _ =>
      obtain ⟨g, hv, hr⟩ := (hW 13 (by kernel_rfl))
      have hfb : fineB 3 4 2 [⟨1, 0, 0, 0, 0, 0, 0⟩, ⟨2, 0, 0, 0, 0, 0, 0⟩, ⟨3, 0, 0, 2, 0, 0, 0⟩, ⟨4, 0, 0, 0, 0, 0, 0⟩, ⟨5, 0, 0, 0, 1, 0, 0⟩, ⟨7, 0, 0, 0, 1, 0, 0⟩] = true := by kernel_rfl
      have h9 := fine_any HC w (HC.below W w ht hb) 3 4 2 (some ⟨g, 0, none⟩) [⟨1, 0, 0, 0, 0, 0, 0⟩, ⟨2, 0, 0, 0, 0, 0, 0⟩, ⟨3, 0, 0, 2, 0, 0, 0⟩, ⟨4, 0, 0, 0, 0, 0, 0⟩, ⟨5, 0, 0, 0, 1, 0, 0⟩, ⟨7, 0, 0, 0, 1, 0, 0⟩] (List.length (α := Ev) [⟨1, 0, 0, 0, 0, 0, 0⟩, ⟨2, 0, 0, 0, 0, 0, 0⟩, ⟨3, 0, 0, 2, 0, 0, 0⟩, ⟨4, 0, 0, 0, 0, 0, 0⟩, ⟨5, 0, 0, 0, 1, 0, 0⟩, ⟨7, 0, 0, 0, 1, 0, 0⟩]) i3 i4 i2 (by decide) (EvsAt.row hr (Array.getElem?_eq_some_iff.1 hr).1 (ok_of (by kernel_rfl)))
      rw [hfb] at h9
      exact o_fine 16 (opAtW ho (by kernel_rfl)) hv h9 (fun w' hb' => hK _ w' hb' rfl)
    | 15, _ =>
      exact v_andT 8 17 (opAtW ho (by kernel_rfl)) (hW 5 (by kernel_rfl)) (hW 14 (by kernel_rfl)) (hK _ _ (Below.refl _ _) rfl)
    | 16, _ =>
      exact v_move 18 (opAtW ho (by kernel_rfl)) (hW 15 (by kernel_rfl)) (hK _ _ (Below.refl _ _) rfl)
    | 17, _ =>
      exact o_ev (opAtW ho (by kernel_rfl)) (ev_any 2 0 0 w) (fun w' hb' => hK _ w' hb' rfl)
    | 18, _ =>
      have p20 : a.tmps[20]?.getD undef = evV ⟨2, 0, 0, 0, 0, 0, 0⟩ := (hW 17 (by kernel_rfl))
      exact e_slice [⟨2, 0, 0, 0, 0, 0, 0⟩] #[(0, .tmp 20)] (opAtW ho (by kernel_rfl)) (by decide) (by decide) (by simp [Act.eval, p20]) (fun v w' hb' hs => hK v w' hb' hs)
    | 19, _ =>
      obtain ⟨g, hv, hr⟩ := (hW 18 (by kernel_rfl))
      have hfb : badB [⟨2, 0, 0, 0, 0, 0, 0⟩] = true := by kernel_rfl
      have h9 := bad_any HC w (HC.below W w ht hb) (some ⟨g, 0, none⟩) [⟨2, 0, 0, 0, 0, 0, 0⟩] (List.length (α := Ev) [⟨2, 0, 0, 0, 0, 0, 0⟩]) (by decide) (by decide) (EvsAt.row hr (Array.getElem?_eq_some_iff.1 hr).1 (ok_of (by kernel_rfl)))
      rw [hfb] at h9
      exact o_bad 21 (opAtW ho (by kernel_rfl)) hv h9 (fun w' hb' => hK _ w' hb' rfl)
    | 20, _ =>
      exact v_andT 19 22 (opAtW ho (by kernel_rfl)) (hW 16 (by kernel_rfl)) (hW 19 (by kernel_rfl)) (hK _ _ (Below.refl _ _) rfl)
    | 21, _ =>
      exact v_move 23 (opAtW ho (by kernel_rfl)) (hW 20 (by kernel_rfl)) (hK _ _ (Below.refl _ _) rfl)
    | 22, _ =>
      exact v_loadE 1 (opAtW ho (by kernel_rfl)) (hT1 a hT) (row_stays hg hb) rfl (hK _ _ (Below.refl _ _) rfl)
    | 23, _ =>
      exact v_loadE 1 (opAtW ho (by kernel_rfl)) (hT1 a hT) (row_stays hg hb) rfl (hK _ _ (Below.refl _ _) rfl)
    | 24, _ =>
      exact o_by 26 (opAtW ho (by kernel_rfl)) (hW 23 (by kernel_rfl)) (by_any 1 ⟨1, 0, 0, 0, 0, 0, 0⟩ w) (fun w' hb' => hK _ w' hb' rfl)
    | 25, _ =>
      exact o_ev (opAtW ho (by kernel_rfl)) (ev_any 4 0 0 w) (fun w' hb' => hK _ w' hb' rfl)
    | 26, _ =>
      exact o_ev (opAtW ho (by kernel_rfl)) (ev_any 4 0 0 w) (fun w' hb' => hK _ w' hb' rfl)
    | 27, _ =>
      exact o_by 29 (opAtW ho (by kernel_rfl)) (hW 26 (by kernel_rfl)) (by_any 1 ⟨4, 0, 0, 0, 0, 0, 0⟩ w) (fun w' hb' => hK _ w' hb' rfl)
    | 28, _ =>
      have p25 : a.tmps[25]?.getD undef = evV ⟨1, 0, 0, 0, 0, 0, 0⟩ := (hW 22 (by kernel_rfl))
      have p27 : a.tmps[27]?.getD undef = evV ⟨1, 1, 0, 0, 0, 0, 0⟩ := (hW 24 (by kernel_rfl))
      have p28 : a.tmps[28]?.getD undef = evV ⟨4, 0, 0, 0, 0, 0, 0⟩ := (hW 25 (by kernel_rfl))
      have p30 : a.tmps[30]?.getD undef = evV ⟨4, 1, 0, 0, 0, 0, 0⟩ := (hW 27 (by kernel_rfl))
      exact e_slice [⟨1, 0, 0, 0, 0, 0, 0⟩, ⟨1, 1, 0, 0, 0, 0, 0⟩, ⟨4, 0, 0, 0, 0, 0, 0⟩, ⟨4, 1, 0, 0, 0, 0, 0⟩] #[(0, .tmp 25), (1, .tmp 27), (2, .tmp 28), (3, .tmp 30)] (opAtW ho (by kernel_rfl)) (by decide) (by decide) (by simp [Act.eval, p25, p27, p28, p30]) (fun v w' hb' hs => hK v w' hb' hs)
    | 29, _ =>
      obtain ⟨g, hv, hr⟩ := (hW 28 (by kernel_rfl))
      have hfb : badB [⟨1, 0, 0, 0, 0, 0, 0⟩, ⟨1, 1, 0, 0, 0, 0, 0⟩, ⟨4, 0, 0, 0, 0, 0, 0⟩, ⟨4, 1, 0, 0, 0, 0, 0⟩] = true := by kernel_rfl
      have h9 := bad_any HC w (HC.below W w ht hb) (some ⟨g, 0, none⟩) [⟨1, 0, 0, 0, 0, 0, 0⟩, ⟨1, 1, 0, 0, 0, 0, 0⟩, ⟨4, 0, 0, 0, 0, 0, 0⟩, ⟨4, 1, 0, 0, 0, 0, 0⟩] (List.length (α := Ev) [⟨1, 0, 0, 0, 0, 0, 0⟩, ⟨1, 1, 0, 0, 0, 0, 0⟩, ⟨4, 0, 0, 0, 0, 0, 0⟩, ⟨4, 1, 0, 0, 0, 0, 0⟩]) (by decide) (by decide) (EvsAt.row hr (Array.getElem?_eq_some_iff.1 hr).1 (ok_of (by kernel_rfl)))
      rw [hfb] at h9
      exact o_bad 31 (opAtW ho (by kernel_rfl)) hv h9 (fun w' hb' => hK _ w' hb' rfl)
    | 30, _ =>
      exact v_andT 24 32 (opAtW ho (by kernel_rfl)) (hW 21 (by kernel_rfl)) (hW 29 (by kernel_rfl)) (hK _ _ (Below.refl _ _) rfl)
    | 31, _ =>
      exact v_move 33 (opAtW ho (by kernel_rfl)) (hW 30 (by kernel_rfl)) (hK _ _ (Below.refl _ _) rfl)
    | 32, _ =>
      exact o_writes (S := SlE writesF) (opAtW ho (by kernel_rfl)) (writes_any w) (fun u w' hb' hs => hK _ w' hb' hs)
    | 33, _ =>
      obtain ⟨g, hv, hr⟩ := (hW 32 (by kernel_rfl))
      exact o_over 35 (opAtW ho (by kernel_rfl)) hv (over_any _ _ _ w) (fun w' hb' => hK _ w' hb' ⟨g, rfl, row_stays hr hb'⟩)
    | 34, _ =>
      obtain ⟨g, hv, hr⟩ := (hW 33 (by kernel_rfl))
      have hfb : fineB 3 4 2 writesF = true := by kernel_rfl
      have h9 := fine_any HC w (HC.below W w ht hb) 3 4 2 (some ⟨g, 0, none⟩) writesF (List.length (α := Ev) writesF) i3 i4 i2 (by decide) (EvsAt.row hr (Array.getElem?_eq_some_iff.1 hr).1 (ok_of (by kernel_rfl)))
      rw [hfb] at h9
      exact o_fine 36 (opAtW ho (by kernel_rfl)) hv h9 (fun w' hb' => hK _ w' hb' rfl)
    | 35, _ =>
      exact v_andT 34 37 (opAtW ho (by kernel_rfl)) (hW 31 (by kernel_rfl)) (hW 34 (by kernel_rfl)) (hK _ _ (Below.refl _ _) rfl)
    | 36, _ =>
      exact v_assign 38 (opAtW ho (by kernel_rfl)) (hW 35 (by kernel_rfl)) (hK _ _ (Below.refl _ _) rfl)
    | i + 37, h => exact absurd (show i + 37 < 37 from h) (by omega)
  · intro us w hu hb hS
    exact hend us w hu hb (hS 36 (by decide))
set_option maxHeartbeats 4000000 in
theorem works_any {Tb : World → Prop} (HC : CheckC Tb) (w : World) (ht : Tb w) :
    Calls Tryd.prog 5 #[] w fun r w' => r = .returned (.bool true) ∧ Below w.heap.size w w' := by
  have H := Lib.hid (ev_any 1 0 0 w)
  unfold evV at H
  simp only at H
  have HT := Lib.hid (fun w1 (hb : Below w.heap.size w w1) => HC.below w w1 ht hb)
  have HCC := Lib.hid HC
  clear ht HC
  go_enter Tryd.func5, Tryd.ntmps5
  go_wp2_with fail
  refine H.out.mono ?_
  rintro _ w1 ⟨rfl, c1⟩
  have B1 := Lib.hid c1
  clear c1
  go_wp2_with fail
  have hb2 : Below w.heap.size w (w1.alloc (.cells (evC ⟨1, 0, 0, 0, 0, 0, 0⟩) 27)) := B1.out.alloc B1.out.size _
  have B2 := Lib.hid hb2
  refine regWk HCC.out rfl _ (by simp) _ (HT.out _ B2.out) w1.heap.size (heap_alloc_new w1 _) rfl ?_
  intro us w5 hu b5 hz
  clear hb2
  obtain ⟨z0, z1, z2, z3, z4, z5, z6, z7, z8, z9, z10, z11, z12, z13, z14, z15, z16, z17, z18, z19, z20, z21, z22, z23, z24, z25, z26, z27, z28, z29, z30, z31, z32, z33, z34, z35, z36, rfl⟩ : ∃ z0 z1 z2 z3 z4 z5 z6 z7 z8 z9 z10 z11 z12 z13 z14 z15 z16 z17 z18 z19 z20 z21 z22 z23 z24 z25 z26 z27 z28 z29 z30 z31 z32 z33 z34 z35 z36 : Value, us = [z0, z1, z2, z3, z4, z5, z6, z7, z8, z9, z10, z11, z12, z13, z14, z15, z16, z17, z18, z19, z20, z21, z22, z23, z24, z25, z26, z27, z28, z29, z30, z31, z32, z33, z34, z35, z36] := by
    obtain ⟨z0, r0, rfl, hl0⟩ := cons_ofW hu
    obtain ⟨z1, r1, rfl, hl1⟩ := cons_ofW hl0
    obtain ⟨z2, r2, rfl, hl2⟩ := cons_ofW hl1
    obtain ⟨z3, r3, rfl, hl3⟩ := cons_ofW hl2
    obtain ⟨z4, r4, rfl, hl4⟩ := cons_ofW hl3
    obtain ⟨z5, r5, rfl, hl5⟩ := cons_ofW hl4
    obtain ⟨z6, r6, rfl, hl6⟩ := cons_ofW hl5
    obtain ⟨z7, r7, rfl, hl7⟩ := cons_ofW hl6
    obtain ⟨z8, r8, rfl, hl8⟩ := cons_ofW hl7
    obtain ⟨z9, r9, rfl, hl9⟩ := cons_ofW hl8
    obtain ⟨z10, r10, rfl, hl10⟩ := cons_ofW hl9
    obtain ⟨z11, r11, rfl, hl11⟩ := cons_ofW hl10
    obtain ⟨z12, r12, rfl, hl12⟩ := cons_ofW hl11
    obtain ⟨z13, r13, rfl, hl13⟩ := cons_ofW hl12
    obtain ⟨z14, r14, rfl, hl14⟩ := cons_ofW hl13
    obtain ⟨z15, r15, rfl, hl15⟩ := cons_ofW hl14
    obtain ⟨z16, r16, rfl, hl16⟩ := cons_ofW hl15
    obtain ⟨z17, r17, rfl, hl17⟩ := cons_ofW hl16
    obtain ⟨z18, r18, rfl, hl18⟩ := cons_ofW hl17
    obtain ⟨z19, r19, rfl, hl19⟩ := cons_ofW hl18
    obtain ⟨z20, r20, rfl, hl20⟩ := cons_ofW hl19
    obtain ⟨z21, r21, rfl, hl21⟩ := cons_ofW hl20
    obtain ⟨z22, r22, rfl, hl22⟩ := cons_ofW hl21
    obtain ⟨z23, r23, rfl, hl23⟩ := cons_ofW hl22
    obtain ⟨z24, r24, rfl, hl24⟩ := cons_ofW hl23
    obtain ⟨z25, r25, rfl, hl25⟩ := cons_ofW hl24
    obtain ⟨z26, r26, rfl, hl26⟩ := cons_ofW hl25
    obtain ⟨z27, r27, rfl, hl27⟩ := cons_ofW hl26
    obtain ⟨z28, r28, rfl, hl28⟩ := cons_ofW hl27
    obtain ⟨z29, r29, rfl, hl29⟩ := cons_ofW hl28
    obtain ⟨z30, r30, rfl, hl30⟩ := cons_ofW hl29
    obtain ⟨z31, r31, rfl, hl31⟩ := cons_ofW hl30
    obtain ⟨z32, r32, rfl, hl32⟩ := cons_ofW hl31
    obtain ⟨z33, r33, rfl, hl33⟩ := cons_ofW hl32
    obtain ⟨z34, r34, rfl, hl34⟩ := cons_ofW hl33
    obtain ⟨z35, r35, rfl, hl35⟩ := cons_ofW hl34
    obtain ⟨z36, r36, rfl, hl36⟩ := cons_ofW hl35
    obtain rfl := List.length_eq_zero_iff.1 hl36
    exact ⟨z0, z1, z2, z3, z4, z5, z6, z7, z8, z9, z10, z11, z12, z13, z14, z15, z16, z17, z18, z19, z20, z21, z22, z23, z24, z25, z26, z27, z28, z29, z30, z31, z32, z33, z34, z35, z36, rfl⟩
  obtain rfl : z36 = .bool true := hz
  have B5 : Hid (Below w.heap.size w w5) := B2.out.trans (b5.mono B2.out.size)
  clear hu b5 B1 B2 HT
  simp only [regWk_ds, putAll, List.setIfInBounds_toArray, List.set_cons_succ, List.set_cons_zero]
  go_wp2_with fail
  go_ret
  exact ⟨rfl, B5.out⟩
end Go.Proofs.YtjennlkindbpoaaDoor
