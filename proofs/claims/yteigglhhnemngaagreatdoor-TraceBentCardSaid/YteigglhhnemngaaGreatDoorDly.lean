/-
  FOR DeltaBack (layer 14): a region that draws its order, whose operations change memory and leave values that are known; an event appended; events that are told one behind the other. Conditions: as they stand.
-/
import Derived.Test.YteigglhhnemngaaGreatDoorQ09
import Derived.Test.YteigglhhnemngaaGreatDoorQ08
import Derived.Deep.AppendLies
import Derived.Great.BuildSlice
namespace Go.Proofs.YteigglhhnemngaaGreatDoor
set_option maxRecDepth 100000
open Go.RowKit Go.Deep
set_option linter.unusedVariables false
set_option linter.unusedSimpArgs false
section
variable {P : Program} {ops : Array Oper} {Q : Exit → Act → World → Prop}
def donV (n : Nat) (listed : Array Bool) : Nat → Bool := fun j => decide (j < n) && listed.getD j false
theorem donV_set {n i : Nat} {listed : Array Bool} (hi : i < n) (hs : i < listed.size) : donV n (listed.setIfInBounds i true) = fun j => j == i || donV n listed j := by
  funext j
  unfold donV
  rw [listed_set hs]
  by_cases h : j = i
  · subst h
    simp [hi]
  · rw [if_neg h, beq_eq_false_iff_ne.2 h, Bool.false_or]
theorem wp_region_valsJ {id : Nat} (J : (Nat → Bool) → World → Prop) (vals : List Value) (ds : List Nat) (W : World) (T : Array Value) (hv : vals.length = ds.length) (hn : ds.Nodup) (hd : ∀ d ∈ ds, d < T.size) (hm : P.follows .mixedOrders = true) (hops : okV ds (List.replicate ds.length true) ops = true)
    (hguard : ∀ (i : Nat) (o : Oper) (j : Nat) (want : Bool), ops[i]? = some o → o.guard = some (j, want) → vals.getD j undef = .bool want)
    (h0 : J (fun _ => false) W.drew)
    (hstep : ∀ i o, ops[i]? = some o → i < ds.length → ∀ (don : Nat → Bool) (a : Act) (w : World), (∀ t, t ∉ ds → a.tmps[t]?.getD undef = T[t]?.getD undef) → (∀ j, j ∈ reachT ops 9 i → don j = true ∧ a.tmps[ds.getD j 0]?.getD undef = vals.getD j undef) → don i = false → J don w →
      ∀ K : Act → World → Prop, (∀ w', J (fun j => j == i || don j) w' → K (a.put o.dst (vals.getD i undef)) w') → Oper.wp P o a w K Q)
    (hend : ∀ (w : World), J (fun j => decide (j < ds.length)) w → Q .normal ⟨putAll T ds vals, []⟩ w) :
    (Code.region id ops true).wp P Q ⟨T, []⟩ W := by
  obtain ⟨hsz, hsp⟩ := okV_spec hops
  have hdon0 : donV ds.length (Array.replicate ops.size false) = fun _ => false := by
    funext j
    unfold donV
    rw [Array.getD_eq_getD_getElem?, Array.getElem?_replicate]
    split <;> simp
  refine wp_region_any hm ?_
  refine wpAny_inv (I := fun listed a w => listed.size = ops.size ∧ (∀ i o, i < ds.length → listed.getD i true = true → ops[i]? = some o → ∀ e ∈ o.after.toList, Region.binds .any e = true → listed.getD e.on true = true) ∧ ∃ us : List Value, us.length = ds.length ∧ a = ⟨putAll T ds us, []⟩ ∧ J (donV ds.length listed) w ∧ ∀ i, i < ds.length → listed.getD i true = true → us.getD i undef = vals.getD i undef) (fun _ _ _ h => h.1) ?_ ?_ _ _ _ _ ⟨by simp, fun i o hi hl ho => ?_, ds.map fun d => T.getD d undef, by simp, by rw [putAll_id ds T hn hd], by rw [hdon0]; exact h0, fun i hi h => ?_⟩ ?_
  · rintro listed a w ⟨hs, hcl, us, hu, rfl, hJ, hS⟩ i hi
    obtain ⟨h1, h2, h3⟩ := ready_of hi
    have ho : ops[i]? = some ops[i] := Array.getElem?_eq_getElem h1
    obtain ⟨o1, o2, o4, o3⟩ := hsp i _ ho
    have hid : i < ds.length := by omega
    have hat : ∀ j, j < ds.length → (putAll T ds us)[ds.getD j 0]? = us[j]? := fun j hj => by
      rw [List.getD_eq_getElem?_getD, List.getElem?_eq_getElem hj]
      exact putAll_at T ds us j hj hu.symm hn (hd _ (List.getElem_mem hj))
    have h2' : listed.getD i true = false := h2
    have hdl : ∀ e ∈ ops[i].after.toList, Region.binds .any e = true → listed.getD e.on true = true := fun e he hbn => by
      have := h3 _ ho e he hbn
      have hlt := o3 e he hbn
      rw [Array.getD_eq_getD_getElem?, Array.getElem?_eq_getElem (by omega)] at this ⊢
      simpa using this
    have hle : ∀ j, j ∈ reachT ops 9 i → j < ds.length ∧ listed.getD j true = true := fun j hj =>
      reachT_done (D := fun j => j < ds.length ∧ listed.getD j true = true) (fun i2 o2 h h2 e he hbn => ⟨by
        have := (hsp i2 o2 h2).2.2.2 e he hbn
        have := h.1
        omega, hcl i2 o2 h.1 h.2 h2 e he hbn⟩) 9 i _ ho (fun e he hbn => ⟨by have := o3 e he hbn; omega, hdl e he hbn⟩) j hj
    have hw : Region.wanted ops[i] (yielded ops (putAll T ds us)) = true := by
      cases hg : ops[i].guard with
      | none => simp [Region.wanted, hg]
      | some x =>
        obtain ⟨j, want⟩ := x
        obtain ⟨p1, p2, e, he, hbn, hej⟩ := o4 j want hg
        have hv := hguard i _ j want ho hg
        have hj : j < ds.length := by omega
        have hq := hS j hj (by rw [← hej]; exact hdl e he hbn)
        rw [hv] at hq
        have hg2 := hat j hj
        rw [List.getElem?_eq_getElem (show j < us.length by omega)] at hg2
        rw [List.getD_eq_getElem?_getD, List.getElem?_eq_getElem (show j < us.length by omega)] at hq
        have hdj : ops[j].dst = some (ds.getD j 0) := by
          rw [(hsp j _ (Array.getElem?_eq_getElem p2)).1, List.getD_eq_getElem?_getD, List.getElem?_eq_getElem hj]
          rfl
        have hy : yielded ops (putAll T ds us) j = some want := by
          unfold yielded
          rw [Array.getElem?_eq_getElem p2]
          simp only [Option.bind_some]
          rw [hdj]
          simp only [Option.bind_some]
          rw [hg2]
          simp only [Option.getD_some] at hq
          rw [hq]
        simp [Region.wanted, hg, hy]
    have hcl2 : ∀ i2 o2, i2 < ds.length → (listed.setIfInBounds i true).getD i2 true = true → ops[i2]? = some o2 → ∀ e ∈ o2.after.toList, Region.binds .any e = true → (listed.setIfInBounds i true).getD e.on true = true := fun i2 o2 hi2 hl ho2 e he hbn => by
      rw [listed_set (by omega)] at hl ⊢
      by_cases hei : e.on = i
      · rw [if_pos hei]
      · rw [if_neg hei]
        by_cases hii : i2 = i
        · subst hii
          rw [ho] at ho2
          obtain rfl := Option.some.inj ho2
          exact hdl e he hbn
        · rw [if_neg hii] at hl
          exact hcl i2 o2 hi2 hl ho2 e he hbn
    unfold wpOp
    rw [ho]
    simp only [hw, if_true]
    refine .inl (hstep i _ ho hid (donV ds.length listed) _ w (fun t ht => by rw [putAll_far ds us T t ht]) (fun j hj => ?_) ?_ hJ _ fun w' hJ' => ?_)
    · obtain ⟨l1, l2⟩ := hle j hj
      refine ⟨?_, ?_⟩
      · unfold donV
        rw [decide_eq_true l1, getD_both (by omega) false true, l2]
        rfl
      · show (putAll T ds us)[ds.getD j 0]?.getD undef = _
        rw [hat j l1, ← List.getD_eq_getElem?_getD]
        exact hS j l1 l2
    · unfold donV
      rw [getD_both (by omega) false true, h2', Bool.and_false]
    · refine ⟨by simpa using hs, hcl2, us.set i (vals.getD i undef), by simpa using hu, ?_, ?_, fun j hj hl => ?_⟩
      · rw [putAll_set ds us T i _ hid hu.symm hn, o1, List.getElem?_eq_getElem hid]
        rfl
      · rw [donV_set hid (by omega)]
        exact hJ'
      · by_cases hji : j = i
        · subst hji
          rw [List.getD_eq_getElem?_getD, List.getElem?_set_self (by omega)]
          rfl
        · rw [List.getD_eq_getElem?_getD, List.getElem?_set_ne (by omega), ← List.getD_eq_getElem?_getD]
          rw [listed_set (by omega), if_neg hji] at hl
          exact hS j hj hl
  · rintro listed a w ⟨hs, hcl, us, hu, rfl, hJ, hS⟩ hr
    have hall := ready_some (fun i o ho => (hsp i o ho).2.2.2) hr hs
    have hd2 : donV ds.length listed = fun j => decide (j < ds.length) := by
      funext j
      unfold donV
      by_cases hj : j < ds.length
      · rw [getD_both (by omega) false true, hall j (by omega), Bool.and_true]
      · rw [decide_eq_false hj, Bool.false_and]
    rw [hd2] at hJ
    have huv : us = vals := by
      apply List.ext_getElem? 
      intro i
      by_cases hi : i < ds.length
      · have := hS i hi (hall i (by omega))
        rw [List.getD_eq_getElem?_getD, List.getD_eq_getElem?_getD, List.getElem?_eq_getElem (by omega : i < us.length), List.getElem?_eq_getElem (by omega : i < vals.length)] at this
        rw [List.getElem?_eq_getElem (by omega : i < us.length), List.getElem?_eq_getElem (by omega : i < vals.length)]
        exact congrArg some this
      · rw [List.getElem?_eq_none (by omega), List.getElem?_eq_none (by omega)]
    rw [huv]
    exact hend w hJ
  · rw [Array.getD_eq_getD_getElem?, Array.getElem?_replicate, if_pos (by omega)] at hl
    cases hl
  · rw [Array.getD_eq_getD_getElem?, Array.getElem?_replicate, if_pos (by omega)] at h
    cases h
  · have hle : ∀ (p : Nat → Bool) n, cntR p n ≤ n := fun p n => by
      induction n with
      | zero => exact Nat.le_refl _
      | succ n ih => rw [cntR]; split <;> omega
    exact hle _ _
end
section
variable {a : Act} {w : World} {K : Act → World → Prop} {Q : Exit → Act → World → Prop} {o : Oper}
theorem b_neq0 (x : Nat) {n : Int} {r : Bool} (hr : (n != 0) = r) (ho : o.op = .binOp .neq 27 (.tmp x) (.const (.int .i64 0)) 27) (hx : a.tmps[x]?.getD undef = .int .i64 n) (hK : K (a.put o.dst (.bool r)) w) : Oper.wp Tryz.prog o a w K Q := by
  obtain ⟨dst, op, type, pos, after, guard⟩ := o
  have ho' : op = _ := ho
  subst ho'
  clear ho
  subst hr
  go_simp
  exact hK
theorem b_indexE (x y : Nat) {p : Addr} {i n c : Nat} (hi : i < n) (ho : o.op = .indexAddr 23 (.tmp x) (.tmp y)) (hx : a.tmps[x]?.getD undef = .slice (some p) n c) (hy : a.tmps[y]?.getD undef = .int .i64 (i : Int)) (hK : K (a.put o.dst (.pointer (some (p.add (i * 7))))) w) : Oper.wp Tryz.prog o a w K Q := by
  obtain ⟨dst, op, type, pos, after, guard⟩ := o
  have ho' : op = _ := ho
  subst ho'
  clear ho
  have i1 : (0 : Int) ≤ (i : Int) := by omega
  have i2 : (i : Int) < (n : Int) := by omega
  go_simp
  exact hK
theorem b_loadE (x : Nat) {p : Addr} {e : Ev} (ho : o.op = .load 50 (.tmp x)) (hx : a.tmps[x]?.getD undef = .pointer (some p)) (hc : EvAt w p e) (hK : K (a.put o.dst (evV e)) w) : Oper.wp Tryz.prog o a w K Q := by
  obtain ⟨dst, op, type, pos, after, guard⟩ := o
  have ho' : op = _ := ho
  subst ho'
  clear ho
  obtain ⟨c0, c1, c2, c3, c4, c5, c6, _⟩ := hc
  go_simp
  exact hK
theorem u_evsB : Tryz.prog.underlying 23 = some (.slice 50) := by kernel_rfl
theorem i_evsB : ∃ i b, Tryz.prog.info? 50 = some i ∧ i.zero = some (evV ev0) ∧ i.size = 7 ∧ i.bytes = b ∧ b ≤ 200 := ⟨_, _, rfl, rfl, rfl, rfl, by decide⟩
theorem b_lit1 (x : Nat) (e : Ev) (ho : o.op = .buildSlice 23 1 #[(0, .tmp x)]) (hx : a.tmps[x]?.getD undef = evV e) (hK : K (a.put o.dst (.slice (some ⟨w.heap.size, 0, none⟩) 1 1)) (w.alloc (.cells (evC e) 50))) : Oper.wp Tryz.prog o a w K Q := by
  obtain ⟨ie, hie, hz1, hz2, _⟩ : ∃ ie, Tryz.prog.info? 50 = some ie ∧ ie.size = 7 ∧ ie.zero = some (evV ev0) ∧ True := ⟨_, rfl, rfl, rfl, trivial⟩
  refine wp_buildSlice 23 50 1 #[(0, .tmp x)] ho (evC e) ie _ u_evsB hie hz2 (by rw [hz1]; omega) (by rw [hz1]; omega) ?_ hK
  have he : (#[(0, Operand.tmp x)].map fun (i, x) => (i, a.eval x)).toList = [(0, evV e)] := by simp [Act.eval, hx]
  rw [he, hz1]
  obtain ⟨r, hr, hs, hk⟩ := Great.fill_dense (s := 7) (by decide) [evV e] 0 ((Array.range (1 * 7)).map ((evV ev0).cells[· % (evV ev0).cells.size]!)) (fun v hv => by obtain rfl := List.mem_singleton.1 hv; rfl) (by simp)
  have hr : Instr.fill (fun i => some (i * 7, 7)) ((Array.range (1 * 7)).map ((evV ev0).cells[· % (evV ev0).cells.size]!)) [(0, evV e)] = some r := hr
  rw [hr]
  congr 1
  apply Array.ext_getElem?
  intro k
  rw [hk]
  by_cases hlt : k < 7
  · rw [if_pos ⟨by omega, by simpa using hlt⟩]
    match k, hlt with
    | 0, _ | 1, _ | 2, _ | 3, _ | 4, _ | 5, _ | 6, _ => rfl
  · rw [if_neg (by simp; omega), Array.getElem?_eq_none (by simp; omega), Array.getElem?_eq_none (by show 7 ≤ k; omega)]
theorem news_rowB {w : World} {q : Nat} {V : List Value} {t : TypeId} (h : w.heap[q]? = some (.cells V.toArray t (0, 0))) : ∀ j u, V[j]? = some u → w.cell? ((⟨q, 0, none⟩ : Addr).add j) = some u := fun j u hu => by
  have e : (⟨q, 0, none⟩ : Addr).add j = ⟨q, j, none⟩ := by cases j <;> simp [Addr.add]
  rw [e, cell_of_row w q j _ _ _ h]
  simpa using hu
theorem evsC_app (L M : List Ev) : evsC (L ++ M) = evsC L ++ evsC M := by simp [evsC]
end
theorem own_at {w : World} {base k c : Nat} {A : Option Addr} {X : List Value} (h : w.ownsRow base 50 7 (.slice A k c) k X) : ∀ r, Value.ownBlock (.slice A k c) = some r → base ≤ r ∧ ∃ cur, w.heap[r]? = some (.cells cur 50 (0, 0)) := by
  intro r hr
  rcases h.2 with ⟨e1, _⟩ | ⟨g, cap, cur, e1, e2, e3, _⟩
  · rw [e1] at hr
    cases hr
  · rw [e1] at hr
    obtain rfl : g = r := Option.some.inj hr
    exact ⟨e2, cur, e3⟩
theorem own_far {w : World} {base k c : Nat} {A : Option Addr} {X : List Value} (h : w.ownsRow base 50 7 (.slice A k c) k X) {i : Nat} {cs : Array Value} {t : TypeId} (hi : w.heap[i]? = some (.cells cs t (0, 0))) (ht : t ≠ 50) : some i ≠ Value.ownBlock (.slice A k c) := fun x => by
  obtain ⟨_, cur, hc⟩ := own_at h i x.symm
  rw [hi] at hc
  injection hc with hc
  injection hc with _ e
  exact ht e
theorem own_more {w w' : World} {base k c : Nat} {A : Option Addr} {X : List Value} (h : w.ownsRow base 50 7 (.slice A k c) k X) (b : Below w.heap.size w w') : w'.ownsRow base 50 7 (.slice A k c) k X := own_below h fun r hr => by
  obtain ⟨_, cur, hcur⟩ := own_at h r hr
  exact b.block r (Array.getElem?_eq_some_iff.1 hcur).1
theorem CodAt.grown {w w' : World} {base k c gd : Nat} {A : Option Addr} {X : List Value} {q : Cd} (h : CodAt w gd q) (own : w.ownsRow base 50 7 (.slice A k c) k X) (g : w.grownBy w' (Value.ownBlock (.slice A k c))) : CodAt w' gd q := h.same (g.block gd h.lt (own_far own h (by decide)))
theorem CW.grown {w0 w w' : World} {gc gw B base k c : Nat} {most : Int} {q : Cd} {l : List UInt8} {A : Option Addr} {X : List Value} (h : CW w0 gc gw B most q l w) (own : w.ownsRow base 50 7 (.slice A k c) k X) (hb : w0.heap.size ≤ base) (g : w.grownBy w' (Value.ownBlock (.slice A k c))) : CW w0 gc gw B most q l w' := by
  obtain ⟨hd, ⟨v, hv⟩, hB, hbel, hok, n1, n2, n3⟩ := h
  refine ⟨hd.grown own g, ⟨v, hv.same (g.block gw hv.1.lt (own_far own hv.1 (by decide))) (fun r hr => g.block r (hv.row_lt r hr).2 ?_)⟩, Nat.le_trans hB g.size, ⟨g.os.trans hbel.os, g.tape.trans hbel.tape, g.output.trans hbel.output, Nat.le_trans hbel.size g.size, fun i hi => ?_⟩, hok, n1, n2, n3⟩
  · rcases hv.2.1.2 with ⟨e1, _⟩ | ⟨r', cap, cur, e1, e2, e3, _⟩
    · rw [e1] at hr
      cases hr
    · rw [e1] at hr
      obtain rfl : r' = r := Option.some.inj hr
      exact own_far own e3 (by decide)
  · exact (g.block i (Nat.lt_of_lt_of_le hi hbel.size) (fun x => by have := (own_at own i x.symm).1; omega)).trans (hbel.block i hi)
theorem own_ev {w : World} {base k c : Nat} {A : Option Addr} {L : List Ev} (h : w.ownsRow base 50 7 (.slice A k c) k (evsC L)) (hk : L.length = k) {i : Nat} (hi : i < k) (hok : EvOk (nthE L i)) : ∃ a0, A = some a0 ∧ a0.block < w.heap.size ∧ EvAt w (a0.add (i * 7)) (nthE L i) := by
  rcases h.2 with ⟨h1, h2⟩ | ⟨g, cap, cur, h1, h2, h3, h4, h5, h6, h7⟩
  · omega
  · injection h1 with e1 e2 e3
    subst e1 e3
    refine ⟨⟨g, 0, none⟩, rfl, (Array.getElem?_eq_some_iff.1 h3).1, ?_⟩
    have hc : ∀ j, j < 7 → w.cell? ⟨g, i * 7 + j, none⟩ = (evC (nthE L i))[j]? := fun j hj => by
      have e1 : ((⟨g, 0, none⟩ : Addr).add (i * 7 + j)) = ⟨g, i * 7 + j, none⟩ := by cases hq : i * 7 + j <;> simp [Addr.add]
      have e2 := evsC_at L i j (by omega) hj
      obtain ⟨v, hv⟩ : ∃ v, (evC (nthE L i))[j]? = some v := by
        unfold evC
        match j, hj with
        | 0, _ | 1, _ | 2, _ | 3, _ | 4, _ | 5, _ | 6, _ => exact ⟨_, rfl⟩
      rw [hv] at e2 ⊢
      rw [← e1]
      exact h.cells (g := g) rfl _ _ e2
    have ea : ((⟨g, 0, none⟩ : Addr).add (i * 7)) = ⟨g, i * 7, none⟩ := by cases hq : i * 7 <;> simp [Addr.add]
    rw [ea]
    exact ⟨hc 0 (by decide), hc 1 (by decide), hc 2 (by decide), hc 3 (by decide), hc 4 (by decide), hc 5 (by decide), hc 6 (by decide), hok⟩
def knM (q : Cd) (M : List Ev) : Cd := M.foldl knowQ q
def byM : Cd → List Ev → List UInt8
  | _, [] => []
  | q, e :: r => evB q e ++ byM (knowQ q e) r
def okM : Cd → List Ev → Prop
  | _, [] => True
  | q, e :: r => (mayT q e = true ∧ EvOk e) ∧ okM (knowQ q e) r
theorem knM_app (q : Cd) (M N : List Ev) : knM q (M ++ N) = knM (knM q M) N := List.foldl_append
theorem byM_app (q : Cd) (M N : List Ev) : byM q (M ++ N) = byM q M ++ byM (knM q M) N := by
  induction M generalizing q with
  | nil => rfl
  | cons e r ih =>
    show evB q e ++ byM (knowQ q e) (r ++ N) = _
    rw [ih, ← List.append_assoc]
    rfl
theorem okM_app (q : Cd) (M N : List Ev) : okM q (M ++ N) ↔ okM q M ∧ okM (knM q M) N := by
  induction M generalizing q with
  | nil => exact ⟨fun h => ⟨trivial, h⟩, fun h => h.2⟩
  | cons e r ih =>
    show (_ ∧ okM (knowQ q e) (r ++ N)) ↔ _
    rw [ih]
    exact ⟨fun ⟨a, b, c⟩ => ⟨⟨a, b⟩, c⟩, fun ⟨⟨a, b⟩, c⟩ => ⟨a, b, c⟩⟩
theorem drop_nth {M : List Ev} {j : Nat} (h : j < M.length) : M.drop j = nthE M j :: M.drop (j + 1) ∧ M.take (j + 1) = M.take j ++ [nthE M j] := by
  have e : M[j] = nthE M j := by
    have := nthE_of h
    rw [List.getElem?_eq_getElem h] at this
    exact Option.some.inj this
  rw [← e]
  exact ⟨List.drop_eq_getElem_cons h, by rw [List.take_succ_eq_append_getElem h]⟩
end Go.Proofs.YteigglhhnemngaaGreatDoor
