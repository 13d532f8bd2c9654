/-
  seesawref13's Mine: its rows that draw their order and append twice. Laid by gen/gen_op.py. Conditions: as they stand.
-/
import Derived.Test.YtjennlkindbpoaaDoorOo
import Derived.Test.YtjennlkindbpoaaDoorOh
namespace Go.Proofs.YtjennlkindbpoaaDoor
set_option maxRecDepth 100000
open Go.RowKit Go.Deep
set_option linter.unusedVariables false
set_option linter.unusedSimpArgs false
theorem i_evs : ∃ i b, Tryd.prog.info? 27 = some i ∧ i.zero = some (evV ev0) ∧ i.size = 7 ∧ i.bytes = b ∧ b ≤ 200 := ⟨_, _, rfl, rfl, rfl, rfl, by decide⟩
theorem i_ints : ∃ i b, Tryd.prog.info? 3 = some i ∧ i.zero = some (.int .i64 0) ∧ i.size = 1 ∧ i.bytes = b ∧ b ≤ 200 := ⟨_, _, rfl, rfl, rfl, rfl, by decide⟩
theorem u_ints : Tryd.prog.underlying 87 = some (.slice 3) := by kernel_rfl
section
variable {a : Act} {w : World} {K : Act → World → Prop} {Q : Exit → Act → World → Prop} {o : Oper}
theorem q_lit0 (ho : o.op = .buildSlice 87 0 #[]) (hK : K (a.put o.dst (.slice (some ⟨w.heap.size, 0, none⟩) 0 0)) (w.alloc (.cells #[] 3))) : Oper.wp Tryd.prog o a w K Q := by
  obtain ⟨dst, op, type, pos, after, guard⟩ := o
  have ho' : op = _ := ho
  subst ho'
  clear ho
  go_simp
  exact hK
theorem q_lit0e (ho : o.op = .buildSlice 33 0 #[]) (hK : K (a.put o.dst (.slice (some ⟨w.heap.size, 0, none⟩) 0 0)) (w.alloc (.cells #[] 27))) : Oper.wp Tryd.prog o a w K Q := by
  obtain ⟨dst, op, type, pos, after, guard⟩ := o
  have ho' : op = _ := ho
  subst ho'
  clear ho
  go_simp
  exact hK
theorem q_lit1 (x : Nat) (n : Int) (ho : o.op = .buildSlice 87 1 #[(0, .tmp x)]) (hx : a.tmps[x]?.getD undef = .int .i64 n) (hK : K (a.put o.dst (.slice (some ⟨w.heap.size, 0, none⟩) 1 1)) (w.alloc (.cells #[.int .i64 n] 3))) : Oper.wp Tryd.prog o a w K Q := by
  obtain ⟨dst, op, type, pos, after, guard⟩ := o
  have ho' : op = _ := ho
  subst ho'
  clear ho
  go_simp
  exact hK
theorem q_lit1e (x : Nat) (e : Ev) (ho : o.op = .buildSlice 33 1 #[(0, .tmp x)]) (hx : a.tmps[x]?.getD undef = evV e) (hK : K (a.put o.dst (.slice (some ⟨w.heap.size, 0, none⟩) 1 1)) (w.alloc (.cells (evC e) 27))) : Oper.wp Tryd.prog o a w K Q := by
  obtain ⟨ie, hie, hz1, hz2, hf⟩ := e_cells [e] (by simp) (by simp) [(0, evV e)] rfl
  refine wp_buildSlice 33 27 1 #[(0, .tmp x)] ho (evC e) ie _ u_evs hie hz2 (by rw [hz1]; omega) (by rw [hz1]; omega) ?_ hK
  have he : (#[(0, Operand.tmp x)].map fun (i, x) => (i, a.eval x)).toList = [(0, evV e)] := by simp [Act.eval, hx]
  rw [he]
  have h1 : (evsC [e]).toArray = evC e := by simp [evsC]
  rw [h1] at hf
  exact hf
theorem q_fieldA (k : Nat) (x : Nat) {g : Nat} (hk : k = 0 ∨ k = 3 ∨ k = 4 ∨ k = 5 ∨ k = 7) (ho : o.op = .fieldAddr 89 (.tmp x) k) (hx : a.tmps[x]?.getD undef = .pointer (some ⟨g, 0, none⟩)) (hK : K (a.put o.dst (.pointer (some ⟨g, k, none⟩))) w) : Oper.wp Tryd.prog o a w K Q := by
  obtain ⟨dst, op, type, pos, after, guard⟩ := o
  have ho' : op = _ := ho
  subst ho'
  clear ho
  rcases hk with rfl | rfl | rfl | rfl | rfl <;> (go_simp; exact hK)
theorem q_field3 (x : Nat) {g : Nat} (ho : o.op = .fieldAddr 27 (.tmp x) 3) (hx : a.tmps[x]?.getD undef = .pointer (some ⟨g, 0, none⟩)) (hK : K (a.put o.dst (.pointer (some ⟨g, 3, none⟩))) w) : Oper.wp Tryd.prog o a w K Q := by
  obtain ⟨dst, op, type, pos, after, guard⟩ := o
  have ho' : op = _ := ho
  subst ho'
  clear ho
  go_simp
  exact hK
theorem q_loadI (x : Nat) {q : Addr} {n : Int} (ho : o.op = .load 3 (.tmp x)) (hx : a.tmps[x]?.getD undef = .pointer (some q)) (hc : w.cell? q = some (.int .i64 n)) (hK : K (a.put o.dst (.int .i64 n)) w) : Oper.wp Tryd.prog o a w K Q := by
  obtain ⟨dst, op, type, pos, after, guard⟩ := o
  have ho' : op = _ := ho
  subst ho'
  clear ho
  go_simp
  exact hK
theorem q_loadS (x : Nat) {q : Addr} {A : Option Addr} {n c : Nat} (ho : o.op = .load 87 (.tmp x)) (hx : a.tmps[x]?.getD undef = .pointer (some q)) (hc : w.cell? q = some (.slice A n c)) (hK : K (a.put o.dst (.slice A n c)) w) : Oper.wp Tryd.prog o a w K Q := by
  obtain ⟨dst, op, type, pos, after, guard⟩ := o
  have ho' : op = _ := ho
  subst ho'
  clear ho
  go_simp
  exact hK
theorem q_loadSe (x : Nat) {q : Addr} {A : Option Addr} {n c : Nat} (ho : o.op = .load 33 (.tmp x)) (hx : a.tmps[x]?.getD undef = .pointer (some q)) (hc : w.cell? q = some (.slice A n c)) (hK : K (a.put o.dst (.slice A n c)) w) : Oper.wp Tryd.prog o a w K Q := by
  obtain ⟨dst, op, type, pos, after, guard⟩ := o
  have ho' : op = _ := ho
  subst ho'
  clear ho
  go_simp
  exact hK
theorem q_storeS (x y : Nat) {q : Addr} {A : Option Addr} {n c : Nat} {u : Value} (hd : o.dst = none) (ho : o.op = .store 87 (.tmp x) (.tmp y)) (hx : a.tmps[x]?.getD undef = .pointer (some q)) (hy : a.tmps[y]?.getD undef = .slice A n c) (hc : w.cell? q = some u) (hf : w.frozen? q = false) (hK : K a (w.setCell q (.slice A n c))) : Oper.wp Tryd.prog o a w K Q := by
  obtain ⟨dst, op, type, pos, after, guard⟩ := o
  have ho' : op = _ := ho
  have hd' : dst = none := hd
  subst ho' hd'
  clear ho hd
  go_simp
  exact hK
theorem q_storeSe (x y : Nat) {q : Addr} {A : Option Addr} {n c : Nat} {u : Value} (hd : o.dst = none) (ho : o.op = .store 33 (.tmp x) (.tmp y)) (hx : a.tmps[x]?.getD undef = .pointer (some q)) (hy : a.tmps[y]?.getD undef = .slice A n c) (hc : w.cell? q = some u) (hf : w.frozen? q = false) (hK : K a (w.setCell q (.slice A n c))) : Oper.wp Tryd.prog o a w K Q := by
  obtain ⟨dst, op, type, pos, after, guard⟩ := o
  have ho' : op = _ := ho
  have hd' : dst = none := hd
  subst ho' hd'
  clear ho hd
  go_simp
  exact hK
end
theorem evalT {a : Act} {t : Nat} {v : Value} (h : a.tmps[t]?.getD undef = v) : a.eval (.tmp t) = v := by
  simpa [Act.eval, Array.getD_eq_getD_getElem?] using h
theorem news_row {w : World} {q : Nat} {V : List Value} {t : TypeId} (h : w.heap[q]? = some (.cells V.toArray t (0, 0))) : ∀ j u, V[j]? = some u → w.cell? ((⟨q, 0, none⟩ : Addr).add j) = some u := fun j u hu => by
  have e : (⟨q, 0, none⟩ : Addr).add j = ⟨q, j, none⟩ := by cases j <;> simp [Addr.add]
  rw [e, cell_of_row w q j _ _ _ h]
  simpa using hu
theorem news_ints {w : World} {B : Nat} {A : Option Addr} {L : List Int} (h : IntsO w B A L) (hp : 0 < L.length) : ∃ ad, A = some ad ∧ ∀ j u, (vIO L)[j]? = some u → w.cell? (ad.add j) = some u := by
  obtain ⟨a, rfl, _, _⟩ := h.cell 0 hp
  exact ⟨a, rfl, ints_news10O h⟩
theorem news_evs {w : World} {B : Nat} {A : Option Addr} {L : List Ev} (h : EvsAt w B A L) (hp : 0 < L.length) : ∃ ad, A = some ad ∧ ∀ j u, (evsC L)[j]? = some u → w.cell? (ad.add j) = some u := by
  obtain ⟨a, rfl, _, _⟩ := h 0 hp
  refine ⟨a, rfl, fun j u hu => ?_⟩
  have hj : j < L.length * 7 := by have := (List.getElem?_eq_some_iff.1 hu).1; rwa [evsC_len] at this
  rw [evsC_cells, if_pos hj] at hu
  obtain ⟨a', ha, _, hs⟩ := h (j / 7) (by omega)
  cases ha
  have e1 : (a.add (j / 7 * 7)).add (j % 7) = a.add j := by
    by_cases h1 : j / 7 * 7 = 0 <;> by_cases h2 : j % 7 = 0
    · have : j = 0 := by omega
      subst this
      rfl
    · simp [Addr.add, h1, h2, show j % 7 = j by omega]
    · simp [Addr.add, h1, h2, show j / 7 * 7 = j by omega]
    · have h3 : j ≠ 0 := by omega
      simp [Addr.add, h1, h2, h3, Nat.add_assoc, show j / 7 * 7 + j % 7 = j by omega]
  rw [← e1]
  have h7 : j % 7 < 7 := by omega
  obtain ⟨m, hm⟩ : ∃ m, m = j % 7 := ⟨_, rfl⟩
  rw [← hm] at hu h7 ⊢
  match m, h7 with
  | 0, _ => exact hs.c0.trans hu
  | 1, _ => exact hs.c1.trans hu
  | 2, _ => exact hs.c2.trans hu
  | 3, _ => exact hs.c3.trans hu
  | 4, _ => exact hs.c4.trans hu
  | 5, _ => exact hs.c5.trans hu
  | 6, _ => exact hs.c6.trans hu
theorem one_ints {L : List Int} {u : Value} (h : u ∈ vIO L) : u.oneCell' = true := by
  unfold vIO at h
  obtain ⟨x, _, rfl⟩ := List.mem_map.1 h
  rfl
theorem one_int {n : Int} {u : Value} (h : u ∈ [Value.int .i64 n]) : u.oneCell' = true := by
  rw [List.mem_singleton] at h
  subst h
  rfl
theorem one_ev {e : Ev} {u : Value} (h : u ∈ (evC e).toList) : u.oneCell' = true := by
  simp [evC] at h
  rcases h with rfl | rfl | rfl | rfl | rfl | rfl | rfl <;> rfl
theorem one_evs {L : List Ev} {u : Value} (h : u ∈ evsC L) : u.oneCell' = true := by
  unfold evsC at h
  obtain ⟨e, _, he⟩ := List.mem_flatMap.1 h
  exact one_ev he
theorem waitsO_of {ops : Array Oper} {i j : Nat} {o : Oper} {P : Nat → Prop} (ho : ops[i]? = some o) (hd : ∀ e ∈ o.after.toList, Region.binds .any e = true → P e.on) (h : waitsV ops i j = true) : P j := by
  unfold waitsV at h
  rw [ho] at h
  obtain ⟨e, he, h6⟩ := Array.any_eq_true'.1 h
  simp only [Bool.and_eq_true, beq_iff_eq] at h6
  have := hd e (by simpa using he) h6.1
  rwa [h6.2] at this
def regM15_pv (A : Option Addr) (c nx gx ge : Nat) (v : Int) : Nat → Option Value
  | 1 => some (.pointer (some ⟨gx, 4, none⟩))
  | 2 => some (.slice A nx c)
  | 4 => some (.pointer (some ⟨ge, 3, none⟩))
  | 5 => some (.int .i64 v)
  | _ => none
noncomputable def regM15_ops : Array Oper := opsW Tryd.f41 15
def regM15_ds : List Nat := [55, 56, 57, 58, 59, 60, 61, 62]
set_option maxRecDepth 100000 in
set_option maxHeartbeats 4000000 in
theorem regM15 {id : Nat} {ops : Array Oper} (hops : ops = regM15_ops) (T0 : Array Value) (hsz : 64 ≤ T0.size) (W : World) (gx ge c nx : Nat) (A : Option Addr) (v : Int) (L : List Int) (hgx : gx < W.heap.size) (hxc : W.cell? ⟨gx, 4, none⟩ = some (.slice A nx c)) (hxf : W.frozen? ⟨gx, 4, none⟩ = false) (he : W.cell? ⟨ge, 3, none⟩ = some (.int .i64 v)) (hL : IntsO W W.heap.size A L) (hge : ge < W.heap.size) (hn : L.length = nx) (hnl : nx ≤ 5000) (h7 : T0[7]? = some (.pointer (some ⟨gx, 0, none⟩))) (h9 : T0[9]? = some (.pointer (some ⟨ge, 0, none⟩))) {Q : Exit → Act → World → Prop}
    (hend : ∀ (u0 u1 u2 u3 u4 u5 u6 : Value) (A' : Option Addr) (c' : Nat) (w : World), Below W.heap.size W w → w.ownsRow W.heap.size 3 1 (.slice A' (nx + 1) c') (nx + 1) (vIO (L ++ [v])) → Q .normal ⟨(putAll T0 regM15_ds [u0, u1, u2, u3, u4, u5, u6, .slice A' (nx + 1) c']).setIfInBounds 63 (.pointer (some ⟨gx, 4, none⟩)), []⟩ (w.setCell ⟨gx, 4, none⟩ (.slice A' (nx + 1) c'))) : (Code.region id ops true).wp Tryd.prog Q ⟨T0, []⟩ W := by
  subst hops
  have hos : regM15_ops.size = 10 := by kernel_rfl
  obtain ⟨p, hpe⟩ : ∃ p : Ps, p = ⟨0, 3, 6, 7, regM15_pv A c nx gx ge v⟩ := ⟨_, rfl⟩
  have hok : p.Ok := by subst hpe; exact ⟨by simp, by simp, by simp, by simp, by simp, by simp, rfl, rfl, rfl, rfl⟩
  have hcell : ∀ w, Below W.heap.size W w → w.cell? ⟨gx, 4, none⟩ = some (.slice A nx c) := fun w b => (b.cell (p := ⟨gx, 4, none⟩) hgx).trans hxc
  have hfz : ∀ w, Below W.heap.size W w → w.frozen? ⟨gx, 4, none⟩ = false := fun w b => (World.frozen?_of_block (a := ⟨gx, 4, none⟩) (b.block gx hgx)).trans hxf
  obtain ⟨ie, bt, hie, hz, hs1, hb1, hb2⟩ := i_ints
  refine wp_region_st (J2 p 3 1 W (vIO L) [.int .i64 v] nx) regM15_ds W T0 (by decide) (fun x hx => ?_) (by kernel_rfl) (by kernel_rfl) (fun u => J2.start W u) ?_ ?_
  · have hall : (regM15_ds.all fun d => decide (d < 64)) = true := by decide
    have := List.all_eq_true.1 hall x hx
    simp only [decide_eq_true_eq] at this
    omega
  · intro i o ho hi4 don u a w hT hU hdi hdone hJ K hK
    have hwait : ∀ j, waitsV regM15_ops i j = true → don j = true := fun j hj => waitsO_of (P := fun j => don j = true) ho hdone hj
    have hval : ∀ j v, p.pv j = some v → waitsV regM15_ops i j = true → u j = v := fun j v hv hj => hJ.pv j v hv (hwait j hj)
    have plain : ∀ v, p.pv i = some v → K (a.put o.dst v) w := fun v hv => hK v w (hJ.plain hok hv)
    have hU2 : ∀ j, j < 8 → ∀ v, u j = v → a.tmps[regM15_ds.getD j 0]?.getD undef = v := fun j hj v hv => by rw [hU j hj, hv]; rfl
    have hT0 : ∀ t v, t ∉ regM15_ds → T0[t]? = some v → a.tmps[t]?.getD undef = v := fun t v ht hv => by rw [hT t ht, hv]; rfl
    subst hpe
    match i, hi4 with
    | 0, _ => exact q_lit0 (opAtW ho (by kernel_rfl)) (hK _ _ (hJ.first hok hdi))
    | 1, _ => exact q_fieldA 4 7 (by decide) (opAtW ho (by kernel_rfl)) (hT0 7 _ (by decide) h7) (plain _ rfl)
    | 2, _ => exact q_loadS 56 (opAtW ho (by kernel_rfl)) (hU2 1 (by decide) _ (hval 1 _ rfl (by kernel_rfl))) (hcell w hJ.b) (plain _ rfl)
    | 3, _ =>
      have d0 := hwait 0 (by kernel_rfl)
      have d3 : don 7 = false := off_ofO (fun x => (hJ.o2 x).1) hdi
      have hcu : curO ⟨0, 3, 6, 7, regM15_pv A c nx gx ge v⟩ don = 0 := by unfold curO; simp [hdi, d3]
      obtain ⟨A', c', e0, own⟩ := hJ.ch d0
      have e00 := e0
      rw [hcu] at e0 own
      have hX : (vIO L).length = nx * 1 := by rw [← hn]; simp [vIO]
      refine append_genO u_ints hie hz hs1 hb1 rfl (by decide) hb2 own hJ.b.size hX (fun hpos => ?_) (fun u hu => ?_) (by simp [cntO]; omega) (.tmp 55) (.tmp 57) (opAtW ho (by kernel_rfl)) (evalT (hU2 0 (by decide) _ e0)) (evalT (hU2 2 (by decide) _ (hval 2 _ rfl (by kernel_rfl)))) ?_
      · exact news_ints (hL.belowO hJ.b (Nat.le_refl _)) (by omega)
      · exact one_ints hu
      · intro A2 c2 w2 own2 hg2 hn2
        have q1 : cntO ⟨0, 3, 6, 7, regM15_pv A c nx gx ge v⟩ nx 0 + nx = nx := by simp [cntO]
        rw [q1] at own2 hn2 ⊢
        exact hK _ _ (hJ.link hok (.inl ⟨rfl, hdi, d0⟩) own2 (by rw [hcu, e0]; exact hg2) (by rw [hcu, e0]; exact hn2))
    | 4, _ => exact q_field3 9 (opAtW ho (by kernel_rfl)) (hT0 9 _ (by decide) h9) (plain _ rfl)
    | 5, _ => exact q_loadI 59 (opAtW ho (by kernel_rfl)) (hU2 4 (by decide) _ (hval 4 _ rfl (by kernel_rfl))) ((hJ.b.cell (p := ⟨ge, 3, none⟩) hge).trans he) (plain _ rfl)
    | 6, _ => exact q_lit1 60 v (opAtW ho (by kernel_rfl)) (hU2 5 (by decide) _ (hval 5 _ rfl (by kernel_rfl))) (hK _ _ (hJ.one hok hdi))
    | 7, _ =>
      have d1 := hwait 3 (by kernel_rfl)
      have d2 := hwait 6 (by kernel_rfl)
      have hcu : curO ⟨0, 3, 6, 7, regM15_pv A c nx gx ge v⟩ don = 3 := by unfold curO; simp [hdi, d1]
      obtain ⟨A', c', e0, own⟩ := hJ.ch (hJ.o1 d1)
      have e00 := e0
      rw [hcu] at e0 own
      obtain ⟨q, e1, e2, e3, _⟩ := hJ.nn d2 hdi
      refine append_genO (m := 1) (news := [.int .i64 v]) u_ints hie hz hs1 hb1 rfl (by decide) hb2 own hJ.b.size rfl (fun _ => ⟨⟨q, 0, none⟩, rfl, ?_⟩) (fun u hu => ?_) (by simp [cntO]; omega) (.tmp 58) (.tmp 61) (opAtW ho (by kernel_rfl)) (evalT (hU2 3 (by decide) _ e0)) (evalT (hU2 6 (by decide) _ e1)) ?_
      · exact news_row e3
      · exact one_int hu
      · intro A2 c2 w2 own2 hg2 hn2
        have q1 : cntO ⟨0, 3, 6, 7, regM15_pv A c nx gx ge v⟩ nx 3 + 1 = nx + 1 := by simp [cntO]
        rw [q1] at own2 hn2 ⊢
        exact hK _ _ (hJ.link hok (.inr ⟨rfl, hdi, d1, d2⟩) own2 (by rw [hcu, e0]; exact hg2) (by rw [hcu, e0]; exact hn2))
    | i + 8, h => exact absurd (show i + 8 < 8 from h) (by omega)
  · intro us w hu hJ
    match us, hu with
    | [u0, u1, u2, u3, u4, u5, u6, u7], _ =>
      obtain ⟨A', c', e0, own⟩ := hJ.ch (by subst hpe; rfl)
      subst hpe
      have e1 : u7 = .slice A' (nx + 1) c' := e0
      have own' : w.ownsRow W.heap.size 3 1 (.slice A' (nx + 1) c') (nx + 1) (vIO L ++ [.int .i64 v]) := own
      have hb := hJ.b
      have hcg := hcell w hb
      clear hJ e0 own
      subst e1
      have q2 : vIO L ++ [.int .i64 v] = vIO (L ++ [v]) := by simp [vIO]
      rw [q2] at own'
      obtain ⟨o1, k1⟩ : ∃ o, regM15_ops[8]? = some o := ⟨_, Array.getElem?_eq_getElem (by omega)⟩
      obtain ⟨o2, k2⟩ : ∃ o, regM15_ops[9]? = some o := ⟨_, Array.getElem?_eq_getElem (by omega)⟩
      rw [show regM15_ds.length = 8 from rfl]
      have hr := hend u0 u1 u2 u3 u4 u5 u6 A' c' w hb own'
      obtain ⟨vv, hvv⟩ : ∃ v, v = Value.slice A' (nx + 1) c' := ⟨_, rfl⟩
      rw [← hvv] at hr ⊢
      have t7 : (putAll T0 regM15_ds [u0, u1, u2, u3, u4, u5, u6, vv])[7]? = some (.pointer (some ⟨gx, 0, none⟩)) := (putAll_far _ _ _ 7 (by decide)).trans h7
      have tl : (putAll T0 regM15_ds [u0, u1, u2, u3, u4, u5, u6, vv])[62]? = some vv := putAll_at T0 regM15_ds [u0, u1, u2, u3, u4, u5, u6, vv] 7 (by decide) rfl (by decide) (by show 62 < T0.size; omega)
      have hTs : (putAll T0 regM15_ds [u0, u1, u2, u3, u4, u5, u6, vv]).size = T0.size := putAll_size _ _ _
      generalize putAll T0 regM15_ds [u0, u1, u2, u3, u4, u5, u6, vv] = T1 at *
      refine wpListW k1 (guardW k1 (by kernel_rfl)) (q_fieldA 4 7 (by decide) (opAtW k1 (by kernel_rfl)) (by show T1[7]?.getD undef = _; rw [t7]; rfl) ?_)
      rw [dstW k1 (x := some 63) (by kernel_rfl)]
      refine wpListW k2 (guardW k2 (by kernel_rfl)) (q_storeS 63 62 (dstW k2 (by kernel_rfl)) (opAtW k2 (by kernel_rfl)) (by show (T1.setIfInBounds 63 _)[63]?.getD undef = _; rw [Array.getElem?_setIfInBounds_self_of_lt (by omega)]; rfl) (by show (T1.setIfInBounds 63 _)[62]?.getD undef = _; rw [Array.getElem?_setIfInBounds_ne (by decide), tl]; exact hvv) hcg (hfz w hb) ?_)
      rw [show regM15_ops.toList.drop (9 + 1) = [] from List.drop_eq_nil_of_le (by simp [hos]), wpList]
      rw [hvv] at hr
      exact hr
def regM21_pv (A : Option Addr) (c nx gx ge : Nat) (v : Int) : Nat → Option Value
  | 1 => some (.pointer (some ⟨gx, 7, none⟩))
  | 2 => some (.slice A nx c)
  | 4 => some (.pointer (some ⟨ge, 3, none⟩))
  | 5 => some (.int .i64 v)
  | _ => none
noncomputable def regM21_ops : Array Oper := opsW Tryd.f41 21
def regM21_ds : List Nat := [77, 78, 79, 80, 81, 82, 83, 84]
set_option maxRecDepth 100000 in
set_option maxHeartbeats 4000000 in
theorem regM21 {id : Nat} {ops : Array Oper} (hops : ops = regM21_ops) (T0 : Array Value) (hsz : 86 ≤ T0.size) (W : World) (gx ge c nx : Nat) (A : Option Addr) (v : Int) (L : List Int) (hgx : gx < W.heap.size) (hxc : W.cell? ⟨gx, 7, none⟩ = some (.slice A nx c)) (hxf : W.frozen? ⟨gx, 7, none⟩ = false) (he : W.cell? ⟨ge, 3, none⟩ = some (.int .i64 v)) (hL : IntsO W W.heap.size A L) (hge : ge < W.heap.size) (hn : L.length = nx) (hnl : nx ≤ 5000) (h7 : T0[7]? = some (.pointer (some ⟨gx, 0, none⟩))) (h9 : T0[9]? = some (.pointer (some ⟨ge, 0, none⟩))) {Q : Exit → Act → World → Prop}
    (hend : ∀ (u0 u1 u2 u3 u4 u5 u6 : Value) (A' : Option Addr) (c' : Nat) (w : World), Below W.heap.size W w → w.ownsRow W.heap.size 3 1 (.slice A' (nx + 1) c') (nx + 1) (vIO (L ++ [v])) → Q .normal ⟨(putAll T0 regM21_ds [u0, u1, u2, u3, u4, u5, u6, .slice A' (nx + 1) c']).setIfInBounds 85 (.pointer (some ⟨gx, 7, none⟩)), []⟩ (w.setCell ⟨gx, 7, none⟩ (.slice A' (nx + 1) c'))) : (Code.region id ops true).wp Tryd.prog Q ⟨T0, []⟩ W := by
  subst hops
  have hos : regM21_ops.size = 10 := by kernel_rfl
  obtain ⟨p, hpe⟩ : ∃ p : Ps, p = ⟨0, 3, 6, 7, regM21_pv A c nx gx ge v⟩ := ⟨_, rfl⟩
  have hok : p.Ok := by subst hpe; exact ⟨by simp, by simp, by simp, by simp, by simp, by simp, rfl, rfl, rfl, rfl⟩
  have hcell : ∀ w, Below W.heap.size W w → w.cell? ⟨gx, 7, none⟩ = some (.slice A nx c) := fun w b => (b.cell (p := ⟨gx, 7, none⟩) hgx).trans hxc
  have hfz : ∀ w, Below W.heap.size W w → w.frozen? ⟨gx, 7, none⟩ = false := fun w b => (World.frozen?_of_block (a := ⟨gx, 7, none⟩) (b.block gx hgx)).trans hxf
  obtain ⟨ie, bt, hie, hz, hs1, hb1, hb2⟩ := i_ints
  refine wp_region_st (J2 p 3 1 W (vIO L) [.int .i64 v] nx) regM21_ds W T0 (by decide) (fun x hx => ?_) (by kernel_rfl) (by kernel_rfl) (fun u => J2.start W u) ?_ ?_
  · have hall : (regM21_ds.all fun d => decide (d < 86)) = true := by decide
    have := List.all_eq_true.1 hall x hx
    simp only [decide_eq_true_eq] at this
    omega
  · intro i o ho hi4 don u a w hT hU hdi hdone hJ K hK
    have hwait : ∀ j, waitsV regM21_ops i j = true → don j = true := fun j hj => waitsO_of (P := fun j => don j = true) ho hdone hj
    have hval : ∀ j v, p.pv j = some v → waitsV regM21_ops i j = true → u j = v := fun j v hv hj => hJ.pv j v hv (hwait j hj)
    have plain : ∀ v, p.pv i = some v → K (a.put o.dst v) w := fun v hv => hK v w (hJ.plain hok hv)
    have hU2 : ∀ j, j < 8 → ∀ v, u j = v → a.tmps[regM21_ds.getD j 0]?.getD undef = v := fun j hj v hv => by rw [hU j hj, hv]; rfl
    have hT0 : ∀ t v, t ∉ regM21_ds → T0[t]? = some v → a.tmps[t]?.getD undef = v := fun t v ht hv => by rw [hT t ht, hv]; rfl
    subst hpe
    match i, hi4 with
    | 0, _ => exact q_lit0 (opAtW ho (by kernel_rfl)) (hK _ _ (hJ.first hok hdi))
    | 1, _ => exact q_fieldA 7 7 (by decide) (opAtW ho (by kernel_rfl)) (hT0 7 _ (by decide) h7) (plain _ rfl)
    | 2, _ => exact q_loadS 78 (opAtW ho (by kernel_rfl)) (hU2 1 (by decide) _ (hval 1 _ rfl (by kernel_rfl))) (hcell w hJ.b) (plain _ rfl)
    | 3, _ =>
      have d0 := hwait 0 (by kernel_rfl)
      have d3 : don 7 = false := off_ofO (fun x => (hJ.o2 x).1) hdi
      have hcu : curO ⟨0, 3, 6, 7, regM21_pv A c nx gx ge v⟩ don = 0 := by unfold curO; simp [hdi, d3]
      obtain ⟨A', c', e0, own⟩ := hJ.ch d0
      have e00 := e0
      rw [hcu] at e0 own
      have hX : (vIO L).length = nx * 1 := by rw [← hn]; simp [vIO]
      refine append_genO u_ints hie hz hs1 hb1 rfl (by decide) hb2 own hJ.b.size hX (fun hpos => ?_) (fun u hu => ?_) (by simp [cntO]; omega) (.tmp 77) (.tmp 79) (opAtW ho (by kernel_rfl)) (evalT (hU2 0 (by decide) _ e0)) (evalT (hU2 2 (by decide) _ (hval 2 _ rfl (by kernel_rfl)))) ?_
      · exact news_ints (hL.belowO hJ.b (Nat.le_refl _)) (by omega)
      · exact one_ints hu
      · intro A2 c2 w2 own2 hg2 hn2
        have q1 : cntO ⟨0, 3, 6, 7, regM21_pv A c nx gx ge v⟩ nx 0 + nx = nx := by simp [cntO]
        rw [q1] at own2 hn2 ⊢
        exact hK _ _ (hJ.link hok (.inl ⟨rfl, hdi, d0⟩) own2 (by rw [hcu, e0]; exact hg2) (by rw [hcu, e0]; exact hn2))
    | 4, _ => exact q_field3 9 (opAtW ho (by kernel_rfl)) (hT0 9 _ (by decide) h9) (plain _ rfl)
    | 5, _ => exact q_loadI 81 (opAtW ho (by kernel_rfl)) (hU2 4 (by decide) _ (hval 4 _ rfl (by kernel_rfl))) ((hJ.b.cell (p := ⟨ge, 3, none⟩) hge).trans he) (plain _ rfl)
    | 6, _ => exact q_lit1 82 v (opAtW ho (by kernel_rfl)) (hU2 5 (by decide) _ (hval 5 _ rfl (by kernel_rfl))) (hK _ _ (hJ.one hok hdi))
    | 7, _ =>
      have d1 := hwait 3 (by kernel_rfl)
      have d2 := hwait 6 (by kernel_rfl)
      have hcu : curO ⟨0, 3, 6, 7, regM21_pv A c nx gx ge v⟩ don = 3 := by unfold curO; simp [hdi, d1]
      obtain ⟨A', c', e0, own⟩ := hJ.ch (hJ.o1 d1)
      have e00 := e0
      rw [hcu] at e0 own
      obtain ⟨q, e1, e2, e3, _⟩ := hJ.nn d2 hdi
      refine append_genO (m := 1) (news := [.int .i64 v]) u_ints hie hz hs1 hb1 rfl (by decide) hb2 own hJ.b.size rfl (fun _ => ⟨⟨q, 0, none⟩, rfl, ?_⟩) (fun u hu => ?_) (by simp [cntO]; omega) (.tmp 80) (.tmp 83) (opAtW ho (by kernel_rfl)) (evalT (hU2 3 (by decide) _ e0)) (evalT (hU2 6 (by decide) _ e1)) ?_
      · exact news_row e3
      · exact one_int hu
      · intro A2 c2 w2 own2 hg2 hn2
        have q1 : cntO ⟨0, 3, 6, 7, regM21_pv A c nx gx ge v⟩ nx 3 + 1 = nx + 1 := by simp [cntO]
        rw [q1] at own2 hn2 ⊢
        exact hK _ _ (hJ.link hok (.inr ⟨rfl, hdi, d1, d2⟩) own2 (by rw [hcu, e0]; exact hg2) (by rw [hcu, e0]; exact hn2))
    | i + 8, h => exact absurd (show i + 8 < 8 from h) (by omega)
  · intro us w hu hJ
    match us, hu with
    | [u0, u1, u2, u3, u4, u5, u6, u7], _ =>
      obtain ⟨A', c', e0, own⟩ := hJ.ch (by subst hpe; rfl)
      subst hpe
      have e1 : u7 = .slice A' (nx + 1) c' := e0
      have own' : w.ownsRow W.heap.size 3 1 (.slice A' (nx + 1) c') (nx + 1) (vIO L ++ [.int .i64 v]) := own
      have hb := hJ.b
      have hcg := hcell w hb
      clear hJ e0 own
      subst e1
      have q2 : vIO L ++ [.int .i64 v] = vIO (L ++ [v]) := by simp [vIO]
      rw [q2] at own'
      obtain ⟨o1, k1⟩ : ∃ o, regM21_ops[8]? = some o := ⟨_, Array.getElem?_eq_getElem (by omega)⟩
      obtain ⟨o2, k2⟩ : ∃ o, regM21_ops[9]? = some o := ⟨_, Array.getElem?_eq_getElem (by omega)⟩
      rw [show regM21_ds.length = 8 from rfl]
      have hr := hend u0 u1 u2 u3 u4 u5 u6 A' c' w hb own'
      obtain ⟨vv, hvv⟩ : ∃ v, v = Value.slice A' (nx + 1) c' := ⟨_, rfl⟩
      rw [← hvv] at hr ⊢
      have t7 : (putAll T0 regM21_ds [u0, u1, u2, u3, u4, u5, u6, vv])[7]? = some (.pointer (some ⟨gx, 0, none⟩)) := (putAll_far _ _ _ 7 (by decide)).trans h7
      have tl : (putAll T0 regM21_ds [u0, u1, u2, u3, u4, u5, u6, vv])[84]? = some vv := putAll_at T0 regM21_ds [u0, u1, u2, u3, u4, u5, u6, vv] 7 (by decide) rfl (by decide) (by show 84 < T0.size; omega)
      have hTs : (putAll T0 regM21_ds [u0, u1, u2, u3, u4, u5, u6, vv]).size = T0.size := putAll_size _ _ _
      generalize putAll T0 regM21_ds [u0, u1, u2, u3, u4, u5, u6, vv] = T1 at *
      refine wpListW k1 (guardW k1 (by kernel_rfl)) (q_fieldA 7 7 (by decide) (opAtW k1 (by kernel_rfl)) (by show T1[7]?.getD undef = _; rw [t7]; rfl) ?_)
      rw [dstW k1 (x := some 85) (by kernel_rfl)]
      refine wpListW k2 (guardW k2 (by kernel_rfl)) (q_storeS 85 84 (dstW k2 (by kernel_rfl)) (opAtW k2 (by kernel_rfl)) (by show (T1.setIfInBounds 85 _)[85]?.getD undef = _; rw [Array.getElem?_setIfInBounds_self_of_lt (by omega)]; rfl) (by show (T1.setIfInBounds 85 _)[84]?.getD undef = _; rw [Array.getElem?_setIfInBounds_ne (by decide), tl]; exact hvv) hcg (hfz w hb) ?_)
      rw [show regM21_ops.toList.drop (9 + 1) = [] from List.drop_eq_nil_of_le (by simp [hos]), wpList]
      rw [hvv] at hr
      exact hr
def regM24_pv (A : Option Addr) (c nx gx ge : Nat) (v : Int) : Nat → Option Value
  | 1 => some (.pointer (some ⟨gx, 5, none⟩))
  | 2 => some (.slice A nx c)
  | 4 => some (.pointer (some ⟨ge, 3, none⟩))
  | 5 => some (.int .i64 v)
  | _ => none
noncomputable def regM24_ops : Array Oper := opsW Tryd.f41 24
def regM24_ds : List Nat := [89, 90, 91, 92, 93, 94, 95, 96]
set_option maxRecDepth 100000 in
set_option maxHeartbeats 4000000 in
theorem regM24 {id : Nat} {ops : Array Oper} (hops : ops = regM24_ops) (T0 : Array Value) (hsz : 98 ≤ T0.size) (W : World) (gx ge c nx : Nat) (A : Option Addr) (v : Int) (L : List Int) (hgx : gx < W.heap.size) (hxc : W.cell? ⟨gx, 5, none⟩ = some (.slice A nx c)) (hxf : W.frozen? ⟨gx, 5, none⟩ = false) (he : W.cell? ⟨ge, 3, none⟩ = some (.int .i64 v)) (hL : IntsO W W.heap.size A L) (hge : ge < W.heap.size) (hn : L.length = nx) (hnl : nx ≤ 5000) (h7 : T0[7]? = some (.pointer (some ⟨gx, 0, none⟩))) (h9 : T0[9]? = some (.pointer (some ⟨ge, 0, none⟩))) {Q : Exit → Act → World → Prop}
    (hend : ∀ (u0 u1 u2 u3 u4 u5 u6 : Value) (A' : Option Addr) (c' : Nat) (w : World), Below W.heap.size W w → w.ownsRow W.heap.size 3 1 (.slice A' (nx + 1) c') (nx + 1) (vIO (L ++ [v])) → Q .normal ⟨(putAll T0 regM24_ds [u0, u1, u2, u3, u4, u5, u6, .slice A' (nx + 1) c']).setIfInBounds 97 (.pointer (some ⟨gx, 5, none⟩)), []⟩ (w.setCell ⟨gx, 5, none⟩ (.slice A' (nx + 1) c'))) : (Code.region id ops true).wp Tryd.prog Q ⟨T0, []⟩ W := by
  subst hops
  have hos : regM24_ops.size = 10 := by kernel_rfl
  obtain ⟨p, hpe⟩ : ∃ p : Ps, p = ⟨0, 3, 6, 7, regM24_pv A c nx gx ge v⟩ := ⟨_, rfl⟩
  have hok : p.Ok := by subst hpe; exact ⟨by simp, by simp, by simp, by simp, by simp, by simp, rfl, rfl, rfl, rfl⟩
  have hcell : ∀ w, Below W.heap.size W w → w.cell? ⟨gx, 5, none⟩ = some (.slice A nx c) := fun w b => (b.cell (p := ⟨gx, 5, none⟩) hgx).trans hxc
  have hfz : ∀ w, Below W.heap.size W w → w.frozen? ⟨gx, 5, none⟩ = false := fun w b => (World.frozen?_of_block (a := ⟨gx, 5, none⟩) (b.block gx hgx)).trans hxf
  obtain ⟨ie, bt, hie, hz, hs1, hb1, hb2⟩ := i_ints
  refine wp_region_st (J2 p 3 1 W (vIO L) [.int .i64 v] nx) regM24_ds W T0 (by decide) (fun x hx => ?_) (by kernel_rfl) (by kernel_rfl) (fun u => J2.start W u) ?_ ?_
  · have hall : (regM24_ds.all fun d => decide (d < 98)) = true := by decide
    have := List.all_eq_true.1 hall x hx
    simp only [decide_eq_true_eq] at this
    omega
  · intro i o ho hi4 don u a w hT hU hdi hdone hJ K hK
    have hwait : ∀ j, waitsV regM24_ops i j = true → don j = true := fun j hj => waitsO_of (P := fun j => don j = true) ho hdone hj
    have hval : ∀ j v, p.pv j = some v → waitsV regM24_ops i j = true → u j = v := fun j v hv hj => hJ.pv j v hv (hwait j hj)
    have plain : ∀ v, p.pv i = some v → K (a.put o.dst v) w := fun v hv => hK v w (hJ.plain hok hv)
    have hU2 : ∀ j, j < 8 → ∀ v, u j = v → a.tmps[regM24_ds.getD j 0]?.getD undef = v := fun j hj v hv => by rw [hU j hj, hv]; rfl
    have hT0 : ∀ t v, t ∉ regM24_ds → T0[t]? = some v → a.tmps[t]?.getD undef = v := fun t v ht hv => by rw [hT t ht, hv]; rfl
    subst hpe
    match i, hi4 with
    | 0, _ => exact q_lit0 (opAtW ho (by kernel_rfl)) (hK _ _ (hJ.first hok hdi))
    | 1, _ => exact q_fieldA 5 7 (by decide) (opAtW ho (by kernel_rfl)) (hT0 7 _ (by decide) h7) (plain _ rfl)
    | 2, _ => exact q_loadS 90 (opAtW ho (by kernel_rfl)) (hU2 1 (by decide) _ (hval 1 _ rfl (by kernel_rfl))) (hcell w hJ.b) (plain _ rfl)
    | 3, _ =>
      have d0 := hwait 0 (by kernel_rfl)
      have d3 : don 7 = false := off_ofO (fun x => (hJ.o2 x).1) hdi
      have hcu : curO ⟨0, 3, 6, 7, regM24_pv A c nx gx ge v⟩ don = 0 := by unfold curO; simp [hdi, d3]
      obtain ⟨A', c', e0, own⟩ := hJ.ch d0
      have e00 := e0
      rw [hcu] at e0 own
      have hX : (vIO L).length = nx * 1 := by rw [← hn]; simp [vIO]
      refine append_genO u_ints hie hz hs1 hb1 rfl (by decide) hb2 own hJ.b.size hX (fun hpos => ?_) (fun u hu => ?_) (by simp [cntO]; omega) (.tmp 89) (.tmp 91) (opAtW ho (by kernel_rfl)) (evalT (hU2 0 (by decide) _ e0)) (evalT (hU2 2 (by decide) _ (hval 2 _ rfl (by kernel_rfl)))) ?_
      · exact news_ints (hL.belowO hJ.b (Nat.le_refl _)) (by omega)
      · exact one_ints hu
      · intro A2 c2 w2 own2 hg2 hn2
        have q1 : cntO ⟨0, 3, 6, 7, regM24_pv A c nx gx ge v⟩ nx 0 + nx = nx := by simp [cntO]
        rw [q1] at own2 hn2 ⊢
        exact hK _ _ (hJ.link hok (.inl ⟨rfl, hdi, d0⟩) own2 (by rw [hcu, e0]; exact hg2) (by rw [hcu, e0]; exact hn2))
    | 4, _ => exact q_field3 9 (opAtW ho (by kernel_rfl)) (hT0 9 _ (by decide) h9) (plain _ rfl)
    | 5, _ => exact q_loadI 93 (opAtW ho (by kernel_rfl)) (hU2 4 (by decide) _ (hval 4 _ rfl (by kernel_rfl))) ((hJ.b.cell (p := ⟨ge, 3, none⟩) hge).trans he) (plain _ rfl)
    | 6, _ => exact q_lit1 94 v (opAtW ho (by kernel_rfl)) (hU2 5 (by decide) _ (hval 5 _ rfl (by kernel_rfl))) (hK _ _ (hJ.one hok hdi))
    | 7, _ =>
      have d1 := hwait 3 (by kernel_rfl)
      have d2 := hwait 6 (by kernel_rfl)
      have hcu : curO ⟨0, 3, 6, 7, regM24_pv A c nx gx ge v⟩ don = 3 := by unfold curO; simp [hdi, d1]
      obtain ⟨A', c', e0, own⟩ := hJ.ch (hJ.o1 d1)
      have e00 := e0
      rw [hcu] at e0 own
      obtain ⟨q, e1, e2, e3, _⟩ := hJ.nn d2 hdi
      refine append_genO (m := 1) (news := [.int .i64 v]) u_ints hie hz hs1 hb1 rfl (by decide) hb2 own hJ.b.size rfl (fun _ => ⟨⟨q, 0, none⟩, rfl, ?_⟩) (fun u hu => ?_) (by simp [cntO]; omega) (.tmp 92) (.tmp 95) (opAtW ho (by kernel_rfl)) (evalT (hU2 3 (by decide) _ e0)) (evalT (hU2 6 (by decide) _ e1)) ?_
      · exact news_row e3
      · exact one_int hu
      · intro A2 c2 w2 own2 hg2 hn2
        have q1 : cntO ⟨0, 3, 6, 7, regM24_pv A c nx gx ge v⟩ nx 3 + 1 = nx + 1 := by simp [cntO]
        rw [q1] at own2 hn2 ⊢
        exact hK _ _ (hJ.link hok (.inr ⟨rfl, hdi, d1, d2⟩) own2 (by rw [hcu, e0]; exact hg2) (by rw [hcu, e0]; exact hn2))
    | i + 8, h => exact absurd (show i + 8 < 8 from h) (by omega)
  · intro us w hu hJ
    match us, hu with
    | [u0, u1, u2, u3, u4, u5, u6, u7], _ =>
      obtain ⟨A', c', e0, own⟩ := hJ.ch (by subst hpe; rfl)
      subst hpe
      have e1 : u7 = .slice A' (nx + 1) c' := e0
      have own' : w.ownsRow W.heap.size 3 1 (.slice A' (nx + 1) c') (nx + 1) (vIO L ++ [.int .i64 v]) := own
      have hb := hJ.b
      have hcg := hcell w hb
      clear hJ e0 own
      subst e1
      have q2 : vIO L ++ [.int .i64 v] = vIO (L ++ [v]) := by simp [vIO]
      rw [q2] at own'
      obtain ⟨o1, k1⟩ : ∃ o, regM24_ops[8]? = some o := ⟨_, Array.getElem?_eq_getElem (by omega)⟩
      obtain ⟨o2, k2⟩ : ∃ o, regM24_ops[9]? = some o := ⟨_, Array.getElem?_eq_getElem (by omega)⟩
      rw [show regM24_ds.length = 8 from rfl]
      have hr := hend u0 u1 u2 u3 u4 u5 u6 A' c' w hb own'
      obtain ⟨vv, hvv⟩ : ∃ v, v = Value.slice A' (nx + 1) c' := ⟨_, rfl⟩
      rw [← hvv] at hr ⊢
      have t7 : (putAll T0 regM24_ds [u0, u1, u2, u3, u4, u5, u6, vv])[7]? = some (.pointer (some ⟨gx, 0, none⟩)) := (putAll_far _ _ _ 7 (by decide)).trans h7
      have tl : (putAll T0 regM24_ds [u0, u1, u2, u3, u4, u5, u6, vv])[96]? = some vv := putAll_at T0 regM24_ds [u0, u1, u2, u3, u4, u5, u6, vv] 7 (by decide) rfl (by decide) (by show 96 < T0.size; omega)
      have hTs : (putAll T0 regM24_ds [u0, u1, u2, u3, u4, u5, u6, vv]).size = T0.size := putAll_size _ _ _
      generalize putAll T0 regM24_ds [u0, u1, u2, u3, u4, u5, u6, vv] = T1 at *
      refine wpListW k1 (guardW k1 (by kernel_rfl)) (q_fieldA 5 7 (by decide) (opAtW k1 (by kernel_rfl)) (by show T1[7]?.getD undef = _; rw [t7]; rfl) ?_)
      rw [dstW k1 (x := some 97) (by kernel_rfl)]
      refine wpListW k2 (guardW k2 (by kernel_rfl)) (q_storeS 97 96 (dstW k2 (by kernel_rfl)) (opAtW k2 (by kernel_rfl)) (by show (T1.setIfInBounds 97 _)[97]?.getD undef = _; rw [Array.getElem?_setIfInBounds_self_of_lt (by omega)]; rfl) (by show (T1.setIfInBounds 97 _)[96]?.getD undef = _; rw [Array.getElem?_setIfInBounds_ne (by decide), tl]; exact hvv) hcg (hfz w hb) ?_)
      rw [show regM24_ops.toList.drop (9 + 1) = [] from List.drop_eq_nil_of_le (by simp [hos]), wpList]
      rw [hvv] at hr
      exact hr
def regM9_pv (A : Option Addr) (c nx gx ge : Nat) (e : Ev) : Nat → Option Value
  | 1 => some (.pointer (some ⟨gx, 0, none⟩))
  | 2 => some (.slice A nx c)
  | 4 => some (evV e)
  | _ => none
noncomputable def regM9_ops : Array Oper := opsW Tryd.f41 9
def regM9_ds : List Nat := [30, 31, 32, 33, 34, 35, 36]
set_option maxRecDepth 100000 in
set_option maxHeartbeats 4000000 in
theorem regM9 {id : Nat} {ops : Array Oper} (hops : ops = regM9_ops) (T0 : Array Value) (hsz : 38 ≤ T0.size) (W : World) (gx ge c nx : Nat) (A : Option Addr) (e : Ev) (L : List Ev) (hgx : gx < W.heap.size) (hxc : W.cell? ⟨gx, 0, none⟩ = some (.slice A nx c)) (hxf : W.frozen? ⟨gx, 0, none⟩ = false) (he : W.heap[ge]? = some (.cells (evC e) 27 (0, 0))) (hL : EvsAt W W.heap.size A L) (hge : ge < W.heap.size) (hn : L.length = nx) (hnl : nx ≤ 5000) (h7 : T0[7]? = some (.pointer (some ⟨gx, 0, none⟩))) (h9 : T0[9]? = some (.pointer (some ⟨ge, 0, none⟩))) {Q : Exit → Act → World → Prop}
    (hend : ∀ (u0 u1 u2 u3 u4 u5 : Value) (A' : Option Addr) (c' : Nat) (w : World), Below W.heap.size W w → w.ownsRow W.heap.size 27 7 (.slice A' (nx + 1) c') (nx + 1) (evsC (L ++ [e])) → Q .normal ⟨(putAll T0 regM9_ds [u0, u1, u2, u3, u4, u5, .slice A' (nx + 1) c']).setIfInBounds 37 (.pointer (some ⟨gx, 0, none⟩)), []⟩ (w.setCell ⟨gx, 0, none⟩ (.slice A' (nx + 1) c'))) : (Code.region id ops true).wp Tryd.prog Q ⟨T0, []⟩ W := by
  subst hops
  have hos : regM9_ops.size = 9 := by kernel_rfl
  obtain ⟨p, hpe⟩ : ∃ p : Ps, p = ⟨0, 3, 5, 6, regM9_pv A c nx gx ge e⟩ := ⟨_, rfl⟩
  have hok : p.Ok := by subst hpe; exact ⟨by simp, by simp, by simp, by simp, by simp, by simp, rfl, rfl, rfl, rfl⟩
  have hcell : ∀ w, Below W.heap.size W w → w.cell? ⟨gx, 0, none⟩ = some (.slice A nx c) := fun w b => (b.cell (p := ⟨gx, 0, none⟩) hgx).trans hxc
  have hfz : ∀ w, Below W.heap.size W w → w.frozen? ⟨gx, 0, none⟩ = false := fun w b => (World.frozen?_of_block (a := ⟨gx, 0, none⟩) (b.block gx hgx)).trans hxf
  obtain ⟨ie, bt, hie, hz, hs1, hb1, hb2⟩ := i_evs
  refine wp_region_st (J2 p 27 7 W (evsC L) (evC e).toList nx) regM9_ds W T0 (by decide) (fun x hx => ?_) (by kernel_rfl) (by kernel_rfl) (fun u => J2.start W u) ?_ ?_
  · have hall : (regM9_ds.all fun d => decide (d < 38)) = true := by decide
    have := List.all_eq_true.1 hall x hx
    simp only [decide_eq_true_eq] at this
    omega
  · intro i o ho hi4 don u a w hT hU hdi hdone hJ K hK
    have hwait : ∀ j, waitsV regM9_ops i j = true → don j = true := fun j hj => waitsO_of (P := fun j => don j = true) ho hdone hj
    have hval : ∀ j v, p.pv j = some v → waitsV regM9_ops i j = true → u j = v := fun j v hv hj => hJ.pv j v hv (hwait j hj)
    have plain : ∀ v, p.pv i = some v → K (a.put o.dst v) w := fun v hv => hK v w (hJ.plain hok hv)
    have hU2 : ∀ j, j < 7 → ∀ v, u j = v → a.tmps[regM9_ds.getD j 0]?.getD undef = v := fun j hj v hv => by rw [hU j hj, hv]; rfl
    have hT0 : ∀ t v, t ∉ regM9_ds → T0[t]? = some v → a.tmps[t]?.getD undef = v := fun t v ht hv => by rw [hT t ht, hv]; rfl
    subst hpe
    match i, hi4 with
    | 0, _ => exact q_lit0e (opAtW ho (by kernel_rfl)) (hK _ _ (hJ.first hok hdi))
    | 1, _ => exact q_fieldA 0 7 (by decide) (opAtW ho (by kernel_rfl)) (hT0 7 _ (by decide) h7) (plain _ rfl)
    | 2, _ => exact q_loadSe 31 (opAtW ho (by kernel_rfl)) (hU2 1 (by decide) _ (hval 1 _ rfl (by kernel_rfl))) (hcell w hJ.b) (plain _ rfl)
    | 3, _ =>
      have d0 := hwait 0 (by kernel_rfl)
      have d3 : don 6 = false := off_ofO (fun x => (hJ.o2 x).1) hdi
      have hcu : curO ⟨0, 3, 5, 6, regM9_pv A c nx gx ge e⟩ don = 0 := by unfold curO; simp [hdi, d3]
      obtain ⟨A', c', e0, own⟩ := hJ.ch d0
      have e00 := e0
      rw [hcu] at e0 own
      have hX : (evsC L).length = nx * 7 := by rw [← hn]; simp [evsC_len]
      refine append_genO u_evs hie hz hs1 hb1 rfl (by decide) hb2 own hJ.b.size hX (fun hpos => ?_) (fun u hu => ?_) (by simp [cntO]; omega) (.tmp 30) (.tmp 32) (opAtW ho (by kernel_rfl)) (evalT (hU2 0 (by decide) _ e0)) (evalT (hU2 2 (by decide) _ (hval 2 _ rfl (by kernel_rfl)))) ?_
      · exact news_evs (hL.below hJ.b (Nat.le_refl _)) (by omega)
      · exact one_evs hu
      · intro A2 c2 w2 own2 hg2 hn2
        have q1 : cntO ⟨0, 3, 5, 6, regM9_pv A c nx gx ge e⟩ nx 0 + nx = nx := by simp [cntO]
        rw [q1] at own2 hn2 ⊢
        exact hK _ _ (hJ.link hok (.inl ⟨rfl, hdi, d0⟩) own2 (by rw [hcu, e0]; exact hg2) (by rw [hcu, e0]; exact hn2))
    | 4, _ => exact v_loadE 9 (opAtW ho (by kernel_rfl)) (hT0 9 _ (by decide) h9) ((hJ.b.block ge hge).trans he) rfl (plain _ rfl)
    | 5, _ => exact q_lit1e 34 e (opAtW ho (by kernel_rfl)) (hU2 4 (by decide) _ (hval 4 _ rfl (by kernel_rfl))) (hK _ _ (hJ.one hok hdi))
    | 6, _ =>
      have d1 := hwait 3 (by kernel_rfl)
      have d2 := hwait 5 (by kernel_rfl)
      have hcu : curO ⟨0, 3, 5, 6, regM9_pv A c nx gx ge e⟩ don = 3 := by unfold curO; simp [hdi, d1]
      obtain ⟨A', c', e0, own⟩ := hJ.ch (hJ.o1 d1)
      have e00 := e0
      rw [hcu] at e0 own
      obtain ⟨q, e1, e2, e3, _⟩ := hJ.nn d2 hdi
      refine append_genO (m := 1) (news := (evC e).toList) u_evs hie hz hs1 hb1 rfl (by decide) hb2 own hJ.b.size rfl (fun _ => ⟨⟨q, 0, none⟩, rfl, ?_⟩) (fun u hu => ?_) (by simp [cntO]; omega) (.tmp 33) (.tmp 35) (opAtW ho (by kernel_rfl)) (evalT (hU2 3 (by decide) _ e0)) (evalT (hU2 5 (by decide) _ e1)) ?_
      · exact news_row e3
      · exact one_ev hu
      · intro A2 c2 w2 own2 hg2 hn2
        have q1 : cntO ⟨0, 3, 5, 6, regM9_pv A c nx gx ge e⟩ nx 3 + 1 = nx + 1 := by simp [cntO]
        rw [q1] at own2 hn2 ⊢
        exact hK _ _ (hJ.link hok (.inr ⟨rfl, hdi, d1, d2⟩) own2 (by rw [hcu, e0]; exact hg2) (by rw [hcu, e0]; exact hn2))
    | i + 7, h => exact absurd (show i + 7 < 7 from h) (by omega)
  · intro us w hu hJ
    match us, hu with
    | [u0, u1, u2, u3, u4, u5, u6], _ =>
      obtain ⟨A', c', e0, own⟩ := hJ.ch (by subst hpe; rfl)
      subst hpe
      have e1 : u6 = .slice A' (nx + 1) c' := e0
      have own' : w.ownsRow W.heap.size 27 7 (.slice A' (nx + 1) c') (nx + 1) (evsC L ++ (evC e).toList) := own
      have hb := hJ.b
      have hcg := hcell w hb
      clear hJ e0 own
      subst e1
      have q2 : evsC L ++ (evC e).toList = evsC (L ++ [e]) := by simp [evsC]
      rw [q2] at own'
      obtain ⟨o1, k1⟩ : ∃ o, regM9_ops[7]? = some o := ⟨_, Array.getElem?_eq_getElem (by omega)⟩
      obtain ⟨o2, k2⟩ : ∃ o, regM9_ops[8]? = some o := ⟨_, Array.getElem?_eq_getElem (by omega)⟩
      rw [show regM9_ds.length = 7 from rfl]
      have hr := hend u0 u1 u2 u3 u4 u5 A' c' w hb own'
      obtain ⟨vv, hvv⟩ : ∃ v, v = Value.slice A' (nx + 1) c' := ⟨_, rfl⟩
      rw [← hvv] at hr ⊢
      have t7 : (putAll T0 regM9_ds [u0, u1, u2, u3, u4, u5, vv])[7]? = some (.pointer (some ⟨gx, 0, none⟩)) := (putAll_far _ _ _ 7 (by decide)).trans h7
      have tl : (putAll T0 regM9_ds [u0, u1, u2, u3, u4, u5, vv])[36]? = some vv := putAll_at T0 regM9_ds [u0, u1, u2, u3, u4, u5, vv] 6 (by decide) rfl (by decide) (by show 36 < T0.size; omega)
      have hTs : (putAll T0 regM9_ds [u0, u1, u2, u3, u4, u5, vv]).size = T0.size := putAll_size _ _ _
      generalize putAll T0 regM9_ds [u0, u1, u2, u3, u4, u5, vv] = T1 at *
      refine wpListW k1 (guardW k1 (by kernel_rfl)) (q_fieldA 0 7 (by decide) (opAtW k1 (by kernel_rfl)) (by show T1[7]?.getD undef = _; rw [t7]; rfl) ?_)
      rw [dstW k1 (x := some 37) (by kernel_rfl)]
      refine wpListW k2 (guardW k2 (by kernel_rfl)) (q_storeSe 37 36 (dstW k2 (by kernel_rfl)) (opAtW k2 (by kernel_rfl)) (by show (T1.setIfInBounds 37 _)[37]?.getD undef = _; rw [Array.getElem?_setIfInBounds_self_of_lt (by omega)]; rfl) (by show (T1.setIfInBounds 37 _)[36]?.getD undef = _; rw [Array.getElem?_setIfInBounds_ne (by decide), tl]; exact hvv) hcg (hfz w hb) ?_)
      rw [show regM9_ops.toList.drop (8 + 1) = [] from List.drop_eq_nil_of_le (by simp [hos]), wpList]
      rw [hvv] at hr
      exact hr
end Go.Proofs.YtjennlkindbpoaaDoor
