/-
  FOR ShapeRow: its rows that draw their order and append twice into an array of lists (20, 24). Laid by gen/gen_ox.py. Conditions: as they stand.
-/
import Derived.Test.YtnkkakcnlcmikaaDoorOp
namespace Go.Proofs.YtnkkakcnlcmikaaDoor
set_option maxRecDepth 100000
open Go.RowKit Go.Deep
set_option linter.unusedVariables false
set_option linter.unusedSimpArgs false
section
variable {a : Act} {w : World} {K : Act → World → Prop} {Q : Exit → Act → World → Prop} {o : Oper}
theorem q_index6 (x y : Nat) {g k : Nat} (hk : k < 6) (ho : o.op = .indexAddr 54 (.tmp x) (.tmp y)) (hx : a.tmps[x]?.getD undef = .pointer (some ⟨g, 0, none⟩)) (hy : a.tmps[y]?.getD undef = .int .i64 (k : Int)) (hK : K (a.put o.dst (.pointer (some ⟨g, k, none⟩))) w) : Oper.wp Tryd.prog o a w K Q := by
  obtain ⟨dst, op, type, pos, after, guard⟩ := o
  have ho' : op = _ := ho
  subst ho'
  clear ho
  have i1 : (0 : Int) ≤ (k : Int) := by omega
  have i2 : (k : Int) < 6 := by omega
  go_simp
  exact hK
end
def regR20_pv (A : Option Addr) (c nx gx ge th : Nat) (v : Int) : Nat → Option Value
  | 0 => some (.int .i64 (th : Int))
  | 2 => some (.int .i64 (th : Int))
  | 3 => some (.pointer (some ⟨gx, th, none⟩))
  | 4 => some (.slice A nx c)
  | 6 => some (.pointer (some ⟨ge, 3, none⟩))
  | 7 => some (.int .i64 v)
  | _ => none
noncomputable def regR20_ops : Array Oper := opsW Tryd.f9 20
def regR20_ds : List Nat := [76, 77, 78, 79, 80, 81, 82, 83, 84, 85]
set_option maxRecDepth 100000 in
set_option maxHeartbeats 4000000 in
theorem regR20 {id : Nat} {ops : Array Oper} (hops : ops = regR20_ops) (T0 : Array Value) (hsz : 87 ≤ T0.size) (W : World) (gx ge c nx th : Nat) (hth : th < 6) (A : Option Addr) (v : Int) (L : List Int) (hgx : gx < W.heap.size) (hxc : W.cell? ⟨gx, th, none⟩ = some (.slice A nx c)) (hxf : W.frozen? ⟨gx, th, none⟩ = false) (he : W.cell? ⟨ge, 3, none⟩ = some (.int .i64 v)) (hL : IntsO W W.heap.size A L) (hge : ge < W.heap.size) (hn : L.length = nx) (hnl : nx ≤ 5000) (h4 : T0[4]? = some (.pointer (some ⟨gx, 0, none⟩))) (h7 : T0[7]? = some (.pointer (some ⟨ge, 0, none⟩))) (h8 : T0[8]? = some (.int .i64 (th : Int))) {Q : Exit → Act → World → Prop}
    (hend : ∀ (u0 u1 u2 u3 u4 u5 u6 u7 u8 : Value) (A' : Option Addr) (c' : Nat) (w : World), Below W.heap.size W w → w.ownsRow W.heap.size 3 1 (.slice A' (nx + 1) c') (nx + 1) (vIO (L ++ [v])) → Q .normal ⟨(putAll T0 regR20_ds [u0, u1, u2, u3, u4, u5, u6, u7, u8, .slice A' (nx + 1) c']).setIfInBounds 86 (.pointer (some ⟨gx, th, none⟩)), []⟩ (w.setCell ⟨gx, th, none⟩ (.slice A' (nx + 1) c'))) : (Code.region id ops true).wp Tryd.prog Q ⟨T0, []⟩ W := by
  subst hops
  have hos : regR20_ops.size = 12 := by kernel_rfl
  obtain ⟨p, hpe⟩ : ∃ p : Ps, p = ⟨1, 5, 8, 9, regR20_pv A c nx gx ge th v⟩ := ⟨_, rfl⟩
  have hok : p.Ok := by subst hpe; exact ⟨by simp, by simp, by simp, by simp, by simp, by simp, rfl, rfl, rfl, rfl⟩
  have hcell : ∀ w, Below W.heap.size W w → w.cell? ⟨gx, th, none⟩ = some (.slice A nx c) := fun w b => (b.cell (p := ⟨gx, th, none⟩) hgx).trans hxc
  have hfz : ∀ w, Below W.heap.size W w → w.frozen? ⟨gx, th, none⟩ = false := fun w b => (World.frozen?_of_block (a := ⟨gx, th, none⟩) (b.block gx hgx)).trans hxf
  obtain ⟨ie, bt, hie, hz, hs1, hb1, hb2⟩ := i_ints
  refine wp_region_st (J2 p 3 1 W (vIO L) [.int .i64 v] nx) regR20_ds W T0 (by decide) (fun x hx => ?_) (by kernel_rfl) (by kernel_rfl) (fun u => J2.start W u) ?_ ?_
  · have hall : (regR20_ds.all fun d => decide (d < 87)) = true := by decide
    have := List.all_eq_true.1 hall x hx
    simp only [decide_eq_true_eq] at this
    omega
  · intro i o ho hi4 don u a w hT hU hdi hdone hJ K hK
    have hwait : ∀ j, waitsV regR20_ops i j = true → don j = true := fun j hj => waitsO_of (P := fun j => don j = true) ho hdone hj
    have hval : ∀ j v, p.pv j = some v → waitsV regR20_ops i j = true → u j = v := fun j v hv hj => hJ.pv j v hv (hwait j hj)
    have plain : ∀ v, p.pv i = some v → K (a.put o.dst v) w := fun v hv => hK v w (hJ.plain hok hv)
    have hU2 : ∀ j, j < 10 → ∀ v, u j = v → a.tmps[regR20_ds.getD j 0]?.getD undef = v := fun j hj v hv => by rw [hU j hj, hv]; rfl
    have hT0 : ∀ t v, t ∉ regR20_ds → T0[t]? = some v → a.tmps[t]?.getD undef = v := fun t v ht hv => by rw [hT t ht, hv]; rfl
    subst hpe
    match i, hi4 with
    | 0, _ => exact v_move 8 (opAtW ho (by kernel_rfl)) (hT0 8 _ (by decide) h8) (plain _ rfl)
    | 1, _ => exact q_lit0 (opAtW ho (by kernel_rfl)) (hK _ _ (hJ.first hok hdi))
    | 2, _ => exact v_move 8 (opAtW ho (by kernel_rfl)) (hT0 8 _ (by decide) h8) (plain _ rfl)
    | 3, _ => exact q_index6 4 78 hth (opAtW ho (by kernel_rfl)) (hT0 4 _ (by decide) h4) (hU2 2 (by decide) _ (hval 2 _ rfl (by kernel_rfl))) (plain _ rfl)
    | 4, _ => exact q_loadS 79 (opAtW ho (by kernel_rfl)) (hU2 3 (by decide) _ (hval 3 _ rfl (by kernel_rfl))) (hcell w hJ.b) (plain _ rfl)
    | 5, _ =>
      have d0 := hwait 1 (by kernel_rfl)
      have d3 : don 9 = false := off_ofO (fun x => (hJ.o2 x).1) hdi
      have hcu : curO ⟨1, 5, 8, 9, regR20_pv A c nx gx ge th v⟩ don = 1 := by unfold curO; simp [hdi, d3]
      obtain ⟨A', c', e0, own⟩ := hJ.ch d0
      have e00 := e0
      rw [hcu] at e0 own
      have hX : (vIO L).length = nx * 1 := by rw [← hn]; simp [vIO]
      refine append_genO u_ints hie hz hs1 hb1 rfl (by decide) hb2 own hJ.b.size hX (fun hpos => ?_) (fun u hu => ?_) (by simp [cntO]; omega) (.tmp 77) (.tmp 80) (opAtW ho (by kernel_rfl)) (evalT (hU2 1 (by decide) _ e0)) (evalT (hU2 4 (by decide) _ (hval 4 _ rfl (by kernel_rfl)))) ?_
      · exact news_ints (hL.belowO hJ.b (Nat.le_refl _)) (by omega)
      · exact one_ints hu
      · intro A2 c2 w2 own2 hg2 hn2
        have q1 : cntO ⟨1, 5, 8, 9, regR20_pv A c nx gx ge th v⟩ nx 1 + nx = nx := by simp [cntO]
        rw [q1] at own2 hn2 ⊢
        exact hK _ _ (hJ.link hok (.inl ⟨rfl, hdi, d0⟩) own2 (by rw [hcu, e0]; exact hg2) (by rw [hcu, e0]; exact hn2))
    | 6, _ => exact q_field3 7 (opAtW ho (by kernel_rfl)) (hT0 7 _ (by decide) h7) (plain _ rfl)
    | 7, _ => exact q_loadI 82 (opAtW ho (by kernel_rfl)) (hU2 6 (by decide) _ (hval 6 _ rfl (by kernel_rfl))) ((hJ.b.cell (p := ⟨ge, 3, none⟩) hge).trans he) (plain _ rfl)
    | 8, _ => exact q_lit1 83 v (opAtW ho (by kernel_rfl)) (hU2 7 (by decide) _ (hval 7 _ rfl (by kernel_rfl))) (hK _ _ (hJ.one hok hdi))
    | 9, _ =>
      have d1 := hwait 5 (by kernel_rfl)
      have d2 := hwait 8 (by kernel_rfl)
      have hcu : curO ⟨1, 5, 8, 9, regR20_pv A c nx gx ge th v⟩ don = 5 := by unfold curO; simp [hdi, d1]
      obtain ⟨A', c', e0, own⟩ := hJ.ch (hJ.o1 d1)
      have e00 := e0
      rw [hcu] at e0 own
      obtain ⟨q, e1, e2, e3, _⟩ := hJ.nn d2 hdi
      refine append_genO (m := 1) (news := [.int .i64 v]) u_ints hie hz hs1 hb1 rfl (by decide) hb2 own hJ.b.size rfl (fun _ => ⟨⟨q, 0, none⟩, rfl, ?_⟩) (fun u hu => ?_) (by simp [cntO]; omega) (.tmp 81) (.tmp 84) (opAtW ho (by kernel_rfl)) (evalT (hU2 5 (by decide) _ e0)) (evalT (hU2 8 (by decide) _ e1)) ?_
      · exact news_row e3
      · exact one_int hu
      · intro A2 c2 w2 own2 hg2 hn2
        have q1 : cntO ⟨1, 5, 8, 9, regR20_pv A c nx gx ge th v⟩ nx 5 + 1 = nx + 1 := by simp [cntO]
        rw [q1] at own2 hn2 ⊢
        exact hK _ _ (hJ.link hok (.inr ⟨rfl, hdi, d1, d2⟩) own2 (by rw [hcu, e0]; exact hg2) (by rw [hcu, e0]; exact hn2))
    | i + 10, h => exact absurd (show i + 10 < 10 from h) (by omega)
  · intro us w hu hJ
    match us, hu with
    | [u0, u1, u2, u3, u4, u5, u6, u7, u8, u9], _ =>
      have u0v : u0 = .int .i64 (th : Int) := hJ.pv 0 _ (by subst hpe; rfl) (by simp [regR20_ds])
      obtain ⟨A', c', e0, own⟩ := hJ.ch (by subst hpe; rfl)
      subst hpe
      have e1 : u9 = .slice A' (nx + 1) c' := e0
      have own' : w.ownsRow W.heap.size 3 1 (.slice A' (nx + 1) c') (nx + 1) (vIO L ++ [.int .i64 v]) := own
      have hb := hJ.b
      have hcg := hcell w hb
      clear hJ e0 own
      subst e1
      have q2 : vIO L ++ [.int .i64 v] = vIO (L ++ [v]) := by simp [vIO]
      rw [q2] at own'
      obtain ⟨o1, k1⟩ : ∃ o, regR20_ops[10]? = some o := ⟨_, Array.getElem?_eq_getElem (by omega)⟩
      obtain ⟨o2, k2⟩ : ∃ o, regR20_ops[11]? = some o := ⟨_, Array.getElem?_eq_getElem (by omega)⟩
      rw [show regR20_ds.length = 10 from rfl]
      have hr := hend u0 u1 u2 u3 u4 u5 u6 u7 u8 A' c' w hb own'
      obtain ⟨vv, hvv⟩ : ∃ v, v = Value.slice A' (nx + 1) c' := ⟨_, rfl⟩
      rw [← hvv] at hr ⊢
      have t7 : (putAll T0 regR20_ds [u0, u1, u2, u3, u4, u5, u6, u7, u8, vv])[4]? = some (.pointer (some ⟨gx, 0, none⟩)) := (putAll_far _ _ _ 4 (by decide)).trans h4
      have t8 : (putAll T0 regR20_ds [u0, u1, u2, u3, u4, u5, u6, u7, u8, vv])[76]? = some u0 := putAll_at T0 regR20_ds [u0, u1, u2, u3, u4, u5, u6, u7, u8, vv] 0 (by decide) rfl (by decide) (by show 76 < T0.size; omega)
      have tl : (putAll T0 regR20_ds [u0, u1, u2, u3, u4, u5, u6, u7, u8, vv])[85]? = some vv := putAll_at T0 regR20_ds [u0, u1, u2, u3, u4, u5, u6, u7, u8, vv] 9 (by decide) rfl (by decide) (by show 85 < T0.size; omega)
      have hTs : (putAll T0 regR20_ds [u0, u1, u2, u3, u4, u5, u6, u7, u8, vv]).size = T0.size := putAll_size _ _ _
      generalize putAll T0 regR20_ds [u0, u1, u2, u3, u4, u5, u6, u7, u8, vv] = T1 at *
      refine wpListW k1 (guardW k1 (by kernel_rfl)) (q_index6 4 76 hth (opAtW k1 (by kernel_rfl)) (by show T1[4]?.getD undef = _; rw [t7]; rfl) (by show T1[76]?.getD undef = _; rw [t8, u0v]; rfl) ?_)
      rw [dstW k1 (x := some 86) (by kernel_rfl)]
      refine wpListW k2 (guardW k2 (by kernel_rfl)) (q_storeS 86 85 (dstW k2 (by kernel_rfl)) (opAtW k2 (by kernel_rfl)) (by show (T1.setIfInBounds 86 _)[86]?.getD undef = _; rw [Array.getElem?_setIfInBounds_self_of_lt (by omega)]; rfl) (by show (T1.setIfInBounds 86 _)[85]?.getD undef = _; rw [Array.getElem?_setIfInBounds_ne (by decide), tl]; exact hvv) hcg (hfz w hb) ?_)
      rw [show regR20_ops.toList.drop (11 + 1) = [] from List.drop_eq_nil_of_le (by simp [hos]), wpList]
      rw [hvv] at hr
      exact hr
def regR24_pv (A : Option Addr) (c nx gx ge th : Nat) (v : Int) : Nat → Option Value
  | 0 => some (.int .i64 (th : Int))
  | 2 => some (.int .i64 (th : Int))
  | 3 => some (.pointer (some ⟨gx, th, none⟩))
  | 4 => some (.slice A nx c)
  | 6 => some (.pointer (some ⟨ge, 3, none⟩))
  | 7 => some (.int .i64 v)
  | _ => none
noncomputable def regR24_ops : Array Oper := opsW Tryd.f9 24
def regR24_ds : List Nat := [109, 110, 111, 112, 113, 114, 115, 116, 117, 118]
set_option maxRecDepth 100000 in
set_option maxHeartbeats 4000000 in
theorem regR24 {id : Nat} {ops : Array Oper} (hops : ops = regR24_ops) (T0 : Array Value) (hsz : 120 ≤ T0.size) (W : World) (gx ge c nx th : Nat) (hth : th < 6) (A : Option Addr) (v : Int) (L : List Int) (hgx : gx < W.heap.size) (hxc : W.cell? ⟨gx, th, none⟩ = some (.slice A nx c)) (hxf : W.frozen? ⟨gx, th, none⟩ = false) (he : W.cell? ⟨ge, 3, none⟩ = some (.int .i64 v)) (hL : IntsO W W.heap.size A L) (hge : ge < W.heap.size) (hn : L.length = nx) (hnl : nx ≤ 5000) (h5 : T0[5]? = some (.pointer (some ⟨gx, 0, none⟩))) (h7 : T0[7]? = some (.pointer (some ⟨ge, 0, none⟩))) (h8 : T0[8]? = some (.int .i64 (th : Int))) {Q : Exit → Act → World → Prop}
    (hend : ∀ (u0 u1 u2 u3 u4 u5 u6 u7 u8 : Value) (A' : Option Addr) (c' : Nat) (w : World), Below W.heap.size W w → w.ownsRow W.heap.size 3 1 (.slice A' (nx + 1) c') (nx + 1) (vIO (L ++ [v])) → Q .normal ⟨(putAll T0 regR24_ds [u0, u1, u2, u3, u4, u5, u6, u7, u8, .slice A' (nx + 1) c']).setIfInBounds 119 (.pointer (some ⟨gx, th, none⟩)), []⟩ (w.setCell ⟨gx, th, none⟩ (.slice A' (nx + 1) c'))) : (Code.region id ops true).wp Tryd.prog Q ⟨T0, []⟩ W := by
  subst hops
  have hos : regR24_ops.size = 12 := by kernel_rfl
  obtain ⟨p, hpe⟩ : ∃ p : Ps, p = ⟨1, 5, 8, 9, regR24_pv A c nx gx ge th v⟩ := ⟨_, rfl⟩
  have hok : p.Ok := by subst hpe; exact ⟨by simp, by simp, by simp, by simp, by simp, by simp, rfl, rfl, rfl, rfl⟩
  have hcell : ∀ w, Below W.heap.size W w → w.cell? ⟨gx, th, none⟩ = some (.slice A nx c) := fun w b => (b.cell (p := ⟨gx, th, none⟩) hgx).trans hxc
  have hfz : ∀ w, Below W.heap.size W w → w.frozen? ⟨gx, th, none⟩ = false := fun w b => (World.frozen?_of_block (a := ⟨gx, th, none⟩) (b.block gx hgx)).trans hxf
  obtain ⟨ie, bt, hie, hz, hs1, hb1, hb2⟩ := i_ints
  refine wp_region_st (J2 p 3 1 W (vIO L) [.int .i64 v] nx) regR24_ds W T0 (by decide) (fun x hx => ?_) (by kernel_rfl) (by kernel_rfl) (fun u => J2.start W u) ?_ ?_
  · have hall : (regR24_ds.all fun d => decide (d < 120)) = true := by decide
    have := List.all_eq_true.1 hall x hx
    simp only [decide_eq_true_eq] at this
    omega
  · intro i o ho hi4 don u a w hT hU hdi hdone hJ K hK
    have hwait : ∀ j, waitsV regR24_ops i j = true → don j = true := fun j hj => waitsO_of (P := fun j => don j = true) ho hdone hj
    have hval : ∀ j v, p.pv j = some v → waitsV regR24_ops i j = true → u j = v := fun j v hv hj => hJ.pv j v hv (hwait j hj)
    have plain : ∀ v, p.pv i = some v → K (a.put o.dst v) w := fun v hv => hK v w (hJ.plain hok hv)
    have hU2 : ∀ j, j < 10 → ∀ v, u j = v → a.tmps[regR24_ds.getD j 0]?.getD undef = v := fun j hj v hv => by rw [hU j hj, hv]; rfl
    have hT0 : ∀ t v, t ∉ regR24_ds → T0[t]? = some v → a.tmps[t]?.getD undef = v := fun t v ht hv => by rw [hT t ht, hv]; rfl
    subst hpe
    match i, hi4 with
    | 0, _ => exact v_move 8 (opAtW ho (by kernel_rfl)) (hT0 8 _ (by decide) h8) (plain _ rfl)
    | 1, _ => exact q_lit0 (opAtW ho (by kernel_rfl)) (hK _ _ (hJ.first hok hdi))
    | 2, _ => exact v_move 8 (opAtW ho (by kernel_rfl)) (hT0 8 _ (by decide) h8) (plain _ rfl)
    | 3, _ => exact q_index6 5 111 hth (opAtW ho (by kernel_rfl)) (hT0 5 _ (by decide) h5) (hU2 2 (by decide) _ (hval 2 _ rfl (by kernel_rfl))) (plain _ rfl)
    | 4, _ => exact q_loadS 112 (opAtW ho (by kernel_rfl)) (hU2 3 (by decide) _ (hval 3 _ rfl (by kernel_rfl))) (hcell w hJ.b) (plain _ rfl)
    | 5, _ =>
      have d0 := hwait 1 (by kernel_rfl)
      have d3 : don 9 = false := off_ofO (fun x => (hJ.o2 x).1) hdi
      have hcu : curO ⟨1, 5, 8, 9, regR24_pv A c nx gx ge th v⟩ don = 1 := by unfold curO; simp [hdi, d3]
      obtain ⟨A', c', e0, own⟩ := hJ.ch d0
      have e00 := e0
      rw [hcu] at e0 own
      have hX : (vIO L).length = nx * 1 := by rw [← hn]; simp [vIO]
      refine append_genO u_ints hie hz hs1 hb1 rfl (by decide) hb2 own hJ.b.size hX (fun hpos => ?_) (fun u hu => ?_) (by simp [cntO]; omega) (.tmp 110) (.tmp 113) (opAtW ho (by kernel_rfl)) (evalT (hU2 1 (by decide) _ e0)) (evalT (hU2 4 (by decide) _ (hval 4 _ rfl (by kernel_rfl)))) ?_
      · exact news_ints (hL.belowO hJ.b (Nat.le_refl _)) (by omega)
      · exact one_ints hu
      · intro A2 c2 w2 own2 hg2 hn2
        have q1 : cntO ⟨1, 5, 8, 9, regR24_pv A c nx gx ge th v⟩ nx 1 + nx = nx := by simp [cntO]
        rw [q1] at own2 hn2 ⊢
        exact hK _ _ (hJ.link hok (.inl ⟨rfl, hdi, d0⟩) own2 (by rw [hcu, e0]; exact hg2) (by rw [hcu, e0]; exact hn2))
    | 6, _ => exact q_field3 7 (opAtW ho (by kernel_rfl)) (hT0 7 _ (by decide) h7) (plain _ rfl)
    | 7, _ => exact q_loadI 115 (opAtW ho (by kernel_rfl)) (hU2 6 (by decide) _ (hval 6 _ rfl (by kernel_rfl))) ((hJ.b.cell (p := ⟨ge, 3, none⟩) hge).trans he) (plain _ rfl)
    | 8, _ => exact q_lit1 116 v (opAtW ho (by kernel_rfl)) (hU2 7 (by decide) _ (hval 7 _ rfl (by kernel_rfl))) (hK _ _ (hJ.one hok hdi))
    | 9, _ =>
      have d1 := hwait 5 (by kernel_rfl)
      have d2 := hwait 8 (by kernel_rfl)
      have hcu : curO ⟨1, 5, 8, 9, regR24_pv A c nx gx ge th v⟩ don = 5 := by unfold curO; simp [hdi, d1]
      obtain ⟨A', c', e0, own⟩ := hJ.ch (hJ.o1 d1)
      have e00 := e0
      rw [hcu] at e0 own
      obtain ⟨q, e1, e2, e3, _⟩ := hJ.nn d2 hdi
      refine append_genO (m := 1) (news := [.int .i64 v]) u_ints hie hz hs1 hb1 rfl (by decide) hb2 own hJ.b.size rfl (fun _ => ⟨⟨q, 0, none⟩, rfl, ?_⟩) (fun u hu => ?_) (by simp [cntO]; omega) (.tmp 114) (.tmp 117) (opAtW ho (by kernel_rfl)) (evalT (hU2 5 (by decide) _ e0)) (evalT (hU2 8 (by decide) _ e1)) ?_
      · exact news_row e3
      · exact one_int hu
      · intro A2 c2 w2 own2 hg2 hn2
        have q1 : cntO ⟨1, 5, 8, 9, regR24_pv A c nx gx ge th v⟩ nx 5 + 1 = nx + 1 := by simp [cntO]
        rw [q1] at own2 hn2 ⊢
        exact hK _ _ (hJ.link hok (.inr ⟨rfl, hdi, d1, d2⟩) own2 (by rw [hcu, e0]; exact hg2) (by rw [hcu, e0]; exact hn2))
    | i + 10, h => exact absurd (show i + 10 < 10 from h) (by omega)
  · intro us w hu hJ
    match us, hu with
    | [u0, u1, u2, u3, u4, u5, u6, u7, u8, u9], _ =>
      have u0v : u0 = .int .i64 (th : Int) := hJ.pv 0 _ (by subst hpe; rfl) (by simp [regR24_ds])
      obtain ⟨A', c', e0, own⟩ := hJ.ch (by subst hpe; rfl)
      subst hpe
      have e1 : u9 = .slice A' (nx + 1) c' := e0
      have own' : w.ownsRow W.heap.size 3 1 (.slice A' (nx + 1) c') (nx + 1) (vIO L ++ [.int .i64 v]) := own
      have hb := hJ.b
      have hcg := hcell w hb
      clear hJ e0 own
      subst e1
      have q2 : vIO L ++ [.int .i64 v] = vIO (L ++ [v]) := by simp [vIO]
      rw [q2] at own'
      obtain ⟨o1, k1⟩ : ∃ o, regR24_ops[10]? = some o := ⟨_, Array.getElem?_eq_getElem (by omega)⟩
      obtain ⟨o2, k2⟩ : ∃ o, regR24_ops[11]? = some o := ⟨_, Array.getElem?_eq_getElem (by omega)⟩
      rw [show regR24_ds.length = 10 from rfl]
      have hr := hend u0 u1 u2 u3 u4 u5 u6 u7 u8 A' c' w hb own'
      obtain ⟨vv, hvv⟩ : ∃ v, v = Value.slice A' (nx + 1) c' := ⟨_, rfl⟩
      rw [← hvv] at hr ⊢
      have t7 : (putAll T0 regR24_ds [u0, u1, u2, u3, u4, u5, u6, u7, u8, vv])[5]? = some (.pointer (some ⟨gx, 0, none⟩)) := (putAll_far _ _ _ 5 (by decide)).trans h5
      have t8 : (putAll T0 regR24_ds [u0, u1, u2, u3, u4, u5, u6, u7, u8, vv])[109]? = some u0 := putAll_at T0 regR24_ds [u0, u1, u2, u3, u4, u5, u6, u7, u8, vv] 0 (by decide) rfl (by decide) (by show 109 < T0.size; omega)
      have tl : (putAll T0 regR24_ds [u0, u1, u2, u3, u4, u5, u6, u7, u8, vv])[118]? = some vv := putAll_at T0 regR24_ds [u0, u1, u2, u3, u4, u5, u6, u7, u8, vv] 9 (by decide) rfl (by decide) (by show 118 < T0.size; omega)
      have hTs : (putAll T0 regR24_ds [u0, u1, u2, u3, u4, u5, u6, u7, u8, vv]).size = T0.size := putAll_size _ _ _
      generalize putAll T0 regR24_ds [u0, u1, u2, u3, u4, u5, u6, u7, u8, vv] = T1 at *
      refine wpListW k1 (guardW k1 (by kernel_rfl)) (q_index6 5 109 hth (opAtW k1 (by kernel_rfl)) (by show T1[5]?.getD undef = _; rw [t7]; rfl) (by show T1[109]?.getD undef = _; rw [t8, u0v]; rfl) ?_)
      rw [dstW k1 (x := some 119) (by kernel_rfl)]
      refine wpListW k2 (guardW k2 (by kernel_rfl)) (q_storeS 119 118 (dstW k2 (by kernel_rfl)) (opAtW k2 (by kernel_rfl)) (by show (T1.setIfInBounds 119 _)[119]?.getD undef = _; rw [Array.getElem?_setIfInBounds_self_of_lt (by omega)]; rfl) (by show (T1.setIfInBounds 119 _)[118]?.getD undef = _; rw [Array.getElem?_setIfInBounds_ne (by decide), tl]; exact hvv) hcg (hfz w hb) ?_)
      rw [show regR24_ops.toList.drop (11 + 1) = [] from List.drop_eq_nil_of_le (by simp [hos]), wpList]
      rw [hvv] at hr
      exact hr
end Go.Proofs.YtnkkakcnlcmikaaDoor
