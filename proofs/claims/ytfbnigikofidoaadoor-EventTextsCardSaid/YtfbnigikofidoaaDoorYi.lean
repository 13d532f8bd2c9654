/-
  seesawref12.Parse: what its rows that draw their order leave. Laid by gen/gen_yi.py. Conditions: as they stand.
-/
import Derived.Test.YtfbnigikofidoaaDoorYg
import Derived.Test.YtfbnigikofidoaaDoorYh
namespace Go.Proofs.YtfbnigikofidoaaDoor
set_option maxRecDepth 100000
open Go.RowKit
set_option linter.unusedVariables false
section
variable {a : Act} {w : World} {K : Act → World → Prop} {Q : Exit → Act → World → Prop} {o : Oper}
theorem p_idx0 (x : Nat) {g : Nat} (ho : o.op = .indexAddr 49 (.tmp x) (.const (.int .i64 0))) (hx : a.tmps[x]?.getD undef = .slice (some ⟨g, 0, none⟩) 2 2) (hK : K (a.put o.dst (.pointer (some ⟨g, 0, none⟩))) w) : Oper.wp Tryd.prog o a w K Q := by
  obtain ⟨dst, op, type, pos, after, guard⟩ := o
  have ho' : op = _ := ho
  subst ho'
  clear ho
  go_simp
  exact hK
theorem p_idx1 (x : Nat) {g : Nat} (ho : o.op = .indexAddr 49 (.tmp x) (.const (.int .i64 1))) (hx : a.tmps[x]?.getD undef = .slice (some ⟨g, 0, none⟩) 2 2) (hK : K (a.put o.dst (.pointer (some ⟨g, 1, none⟩))) w) : Oper.wp Tryd.prog o a w K Q := by
  obtain ⟨dst, op, type, pos, after, guard⟩ := o
  have ho' : op = _ := ho
  subst ho'
  clear ho
  go_simp
  exact hK
theorem p_load (x : Nat) {q : Addr} {n : Int} (ho : o.op = .load 2 (.tmp x)) (hx : a.tmps[x]?.getD undef = .pointer (some q)) (hc : w.cell? q = some (.int .i64 n)) (hK : K (a.put o.dst (.int .i64 n)) w) : Oper.wp Tryd.prog o a w K Q := by
  obtain ⟨dst, op, type, pos, after, guard⟩ := o
  have ho' : op = _ := ho
  subst ho'
  clear ho
  go_simp
  exact hK
theorem p_conv (x : Nat) {n : Int} (h0 : 0 ≤ n) (h2 : n ≤ 255) (ho : o.op = .convert 2 5 (.tmp x)) (hx : a.tmps[x]?.getD undef = .int .i64 n) (hK : K (a.put o.dst (.int .u8 n)) w) : Oper.wp Tryd.prog o a w K Q := by
  obtain ⟨dst, op, type, pos, after, guard⟩ := o
  have ho' : op = _ := ho
  subst ho'
  clear ho
  have e2 : IntKind.u8.wrap n = n := IntWalk.u8_in _ ⟨by omega, by omega⟩
  go_simp
  exact hK
theorem p_field2 (x : Nat) {g : Nat} (ho : o.op = .fieldAddr 23 (.tmp x) 2) (hx : a.tmps[x]?.getD undef = .pointer (some ⟨g, 0, none⟩)) (hK : K (a.put o.dst (.pointer (some ⟨g, 2, none⟩))) w) : Oper.wp Tryd.prog o a w K Q := by
  obtain ⟨dst, op, type, pos, after, guard⟩ := o
  have ho' : op = _ := ho
  subst ho'
  clear ho
  go_simp
  exact hK
theorem p_field3 (x : Nat) {g : Nat} (ho : o.op = .fieldAddr 23 (.tmp x) 3) (hx : a.tmps[x]?.getD undef = .pointer (some ⟨g, 0, none⟩)) (hK : K (a.put o.dst (.pointer (some ⟨g, 3, none⟩))) w) : Oper.wp Tryd.prog o a w K Q := by
  obtain ⟨dst, op, type, pos, after, guard⟩ := o
  have ho' : op = _ := ho
  subst ho'
  clear ho
  go_simp
  exact hK
theorem p_field4 (x : Nat) {g : Nat} (ho : o.op = .fieldAddr 23 (.tmp x) 4) (hx : a.tmps[x]?.getD undef = .pointer (some ⟨g, 0, none⟩)) (hK : K (a.put o.dst (.pointer (some ⟨g, 4, none⟩))) w) : Oper.wp Tryd.prog o a w K Q := by
  obtain ⟨dst, op, type, pos, after, guard⟩ := o
  have ho' : op = _ := ho
  subst ho'
  clear ho
  go_simp
  exact hK
theorem p_field5 (x : Nat) {g : Nat} (ho : o.op = .fieldAddr 23 (.tmp x) 5) (hx : a.tmps[x]?.getD undef = .pointer (some ⟨g, 0, none⟩)) (hK : K (a.put o.dst (.pointer (some ⟨g, 5, none⟩))) w) : Oper.wp Tryd.prog o a w K Q := by
  obtain ⟨dst, op, type, pos, after, guard⟩ := o
  have ho' : op = _ := ho
  subst ho'
  clear ho
  go_simp
  exact hK
theorem p_field6 (x : Nat) {g : Nat} (ho : o.op = .fieldAddr 23 (.tmp x) 6) (hx : a.tmps[x]?.getD undef = .pointer (some ⟨g, 0, none⟩)) (hK : K (a.put o.dst (.pointer (some ⟨g, 6, none⟩))) w) : Oper.wp Tryd.prog o a w K Q := by
  obtain ⟨dst, op, type, pos, after, guard⟩ := o
  have ho' : op = _ := ho
  subst ho'
  clear ho
  go_simp
  exact hK
theorem p_storeI (x y : Nat) {q : Addr} {n : Int} {u : Value} (hd : o.dst = none) (ho : o.op = .store 3 (.tmp x) (.tmp y)) (hx : a.tmps[x]?.getD undef = .pointer (some q)) (hy : a.tmps[y]?.getD undef = .int .i64 n) (hc : w.cell? q = some u) (hf : w.frozen? q = false) (hK : K (a.put o.dst undef) (w.setCell q (.int .i64 n))) : Oper.wp Tryd.prog o a w K Q := by
  obtain ⟨dst, op, type, pos, after, guard⟩ := o
  have ho' : op = _ := ho
  have hd' : dst = none := hd
  subst ho' hd'
  clear ho hd
  go_simp
  exact hK
theorem p_storeL (x y : Nat) {q : Addr} {n : Int} {u : Value} (hd : o.dst = none) (ho : o.op = .store 2 (.tmp x) (.tmp y)) (hx : a.tmps[x]?.getD undef = .pointer (some q)) (hy : a.tmps[y]?.getD undef = .int .i64 n) (hc : w.cell? q = some u) (hf : w.frozen? q = false) (hK : K (a.put o.dst undef) (w.setCell q (.int .i64 n))) : Oper.wp Tryd.prog o a w K Q := by
  obtain ⟨dst, op, type, pos, after, guard⟩ := o
  have ho' : op = _ := ho
  have hd' : dst = none := hd
  subst ho' hd'
  clear ho hd
  go_simp
  exact hK
theorem p_storeB (x y : Nat) {q : Addr} {n : Int} {u : Value} (hd : o.dst = none) (ho : o.op = .store 5 (.tmp x) (.tmp y)) (hx : a.tmps[x]?.getD undef = .pointer (some q)) (hy : a.tmps[y]?.getD undef = .int .u8 n) (hc : w.cell? q = some u) (hf : w.frozen? q = false) (hK : K (a.put o.dst undef) (w.setCell q (.int .u8 n))) : Oper.wp Tryd.prog o a w K Q := by
  obtain ⟨dst, op, type, pos, after, guard⟩ := o
  have ho' : op = _ := ho
  have hd' : dst = none := hd
  subst ho' hd'
  clear ho hd
  go_simp
  exact hK
end
theorem store_row {w : World} {g k : Nat} {cs cs' : Array Value} {t : TypeId} {v : Value} (hg : w.heap[g]? = some (.cells cs t (0, 0))) (h : cs.setIfInBounds k v = cs') : (w.setCell ⟨g, k, none⟩ v).heap[g]? = some (.cells cs' t (0, 0)) := by rw [← h]; exact heap_setCell_same w g k cs t v hg
noncomputable def regP20_ops : Array Oper := opsW Tryd.f8 20
def regP20_D : List (Option Nat) := [some 82, some 83, some 84, some 85, some 86, some 87, some 88, none, some 89, none]
def regP20_ds : List Nat := [82, 83, 84, 85, 86, 87, 88, 89]
set_option maxRecDepth 100000 in
set_option maxHeartbeats 4000000 in
theorem regP20 {id : Nat} {ops : Array Oper} (hops : ops = regP20_ops) (T0 : Array Value) (hsz : 90 ≤ T0.size) (W : World) (gx ge : Nat) (hge : gx < ge) (x0 x1 kd th : Int) (hx : W.heap[gx]? = some (.cells #[.int .i64 x0, .int .i64 x1] 2 (0, 0))) (he : W.heap[ge]? = some (.cells #[.int .u8 kd, .int .i64 th, .int .i64 0, .int .i64 0, .int .i64 0, .int .i64 0, .int .u8 0] 23 (0, 0))) (h7 : T0[7]? = some (.slice (some ⟨gx, 0, none⟩) 2 2)) (h12 : T0[12]? = some (.pointer (some ⟨ge, 0, none⟩))) {Q : Exit → Act → World → Prop}
    (hend : ∀ w, Below ge W w → w.heap[ge]? = some (.cells #[.int .u8 kd, .int .i64 th, .int .i64 x0, .int .i64 0, .int .i64 x1, .int .i64 0, .int .u8 0] 23 (0, 0)) → Q .normal ⟨putAll T0 regP20_ds [.slice (some ⟨gx, 0, none⟩) 2 2, .pointer (some ⟨gx, 0, none⟩), .int .i64 x0, .slice (some ⟨gx, 0, none⟩) 2 2, .pointer (some ⟨gx, 1, none⟩), .int .i64 x1, .pointer (some ⟨ge, 2, none⟩), .pointer (some ⟨ge, 4, none⟩)], []⟩ w) : (Code.region id ops true).wp Tryd.prog Q ⟨T0, []⟩ W := by
  subst hops
  refine wp_region_valsS ([.slice (some ⟨gx, 0, none⟩) 2 2, .pointer (some ⟨gx, 0, none⟩), .int .i64 x0, .slice (some ⟨gx, 0, none⟩) 2 2, .pointer (some ⟨gx, 1, none⟩), .int .i64 x1, .pointer (some ⟨ge, 2, none⟩), undef, .pointer (some ⟨ge, 4, none⟩), undef] : List Value) regP20_D (fun don w => Below ge W w ∧ w.heap[ge]? = some (.cells #[.int .u8 kd, .int .i64 th, (if don 7 = true then .int .i64 x0 else .int .i64 0), .int .i64 0, (if don 9 = true then .int .i64 x1 else .int .i64 0), .int .i64 0, .int .u8 0] 23 (0, 0))) W T0 (show regP20_ds.Nodup by decide) (fun x hx => ?_) (by kernel_rfl) (by kernel_rfl) ?_ (fun i o ho hi don a w hT hW hdn hM K hK => ?_) ?_
  · have hall : (regP20_ds.all fun d => decide (d < 90)) = true := by decide
    have := List.all_eq_true.1 hall x hx
    simp only [decide_eq_true_eq] at this
    omega
  · exact ⟨(Below.refl _ _).drew, he⟩
  · have hT0 : ∀ t v, t ∉ regP20_ds → T0[t]? = some v → a.tmps[t]?.getD undef = v := fun t v ht hv => by rw [hT t ht, hv]; rfl
    match i, hi with
    | 0, _ => exact v_move 7 (opAtW ho (by kernel_rfl)) (hT0 7 _ (by decide) h7) (hK _ hM)
    | 1, _ => exact p_idx0 82 (opAtW ho (by kernel_rfl)) ((hW 0 (by kernel_rfl)).2 82 rfl) (hK _ hM)
    | 2, _ => exact p_load 83 (opAtW ho (by kernel_rfl)) ((hW 1 (by kernel_rfl)).2 83 rfl) (cell_of_row w gx 0 _ _ _ ((hM.1.block gx hge).trans hx)) (hK _ hM)
    | 3, _ => exact v_move 7 (opAtW ho (by kernel_rfl)) (hT0 7 _ (by decide) h7) (hK _ hM)
    | 4, _ => exact p_idx1 85 (opAtW ho (by kernel_rfl)) ((hW 3 (by kernel_rfl)).2 85 rfl) (hK _ hM)
    | 5, _ => exact p_load 86 (opAtW ho (by kernel_rfl)) ((hW 4 (by kernel_rfl)).2 86 rfl) (cell_of_row w gx 1 _ _ _ ((hM.1.block gx hge).trans hx)) (hK _ hM)
    | 6, _ => exact p_field2 12 (opAtW ho (by kernel_rfl)) (hT0 12 _ (by decide) h12) (hK _ hM)
    | 7, _ => exact p_storeI 88 84 (dstW ho (by kernel_rfl)) (opAtW ho (by kernel_rfl)) ((hW 6 (by kernel_rfl)).2 88 rfl) ((hW 2 (by kernel_rfl)).2 84 rfl) (cell_of_row w ge 2 _ _ _ hM.2) (frozen_of_row w ge 2 _ _ hM.2) (hK _ ⟨hM.1.setCell (p := ⟨ge, 2, none⟩) (Nat.le_refl _) _, store_row (v := .int .i64 x0) hM.2 rfl⟩)
    | 8, _ => exact p_field4 12 (opAtW ho (by kernel_rfl)) (hT0 12 _ (by decide) h12) (hK _ hM)
    | 9, _ => exact p_storeI 89 87 (dstW ho (by kernel_rfl)) (opAtW ho (by kernel_rfl)) ((hW 8 (by kernel_rfl)).2 89 rfl) ((hW 5 (by kernel_rfl)).2 87 rfl) (cell_of_row w ge 4 _ _ _ hM.2) (frozen_of_row w ge 4 _ _ hM.2) (hK _ ⟨hM.1.setCell (p := ⟨ge, 4, none⟩) (Nat.le_refl _) _, store_row (v := .int .i64 x1) hM.2 rfl⟩)
    | i + 10, h => exact absurd (show i + 10 < 10 from h) (by omega)
  · intro w hM
    exact hend w hM.1 hM.2
noncomputable def regP22_ops : Array Oper := opsW Tryd.f8 22
def regP22_D : List (Option Nat) := [some 92, some 93, some 94, some 95, some 96, some 97, some 98, none, some 99, none]
def regP22_ds : List Nat := [92, 93, 94, 95, 96, 97, 98, 99]
set_option maxRecDepth 100000 in
set_option maxHeartbeats 4000000 in
theorem regP22 {id : Nat} {ops : Array Oper} (hops : ops = regP22_ops) (T0 : Array Value) (hsz : 100 ≤ T0.size) (W : World) (gx ge : Nat) (hge : gx < ge) (x0 x1 kd th : Int) (hx : W.heap[gx]? = some (.cells #[.int .i64 x0, .int .i64 x1] 2 (0, 0))) (he : W.heap[ge]? = some (.cells #[.int .u8 kd, .int .i64 th, .int .i64 0, .int .i64 0, .int .i64 0, .int .i64 0, .int .u8 0] 23 (0, 0))) (h7 : T0[7]? = some (.slice (some ⟨gx, 0, none⟩) 2 2)) (h12 : T0[12]? = some (.pointer (some ⟨ge, 0, none⟩))) {Q : Exit → Act → World → Prop}
    (hend : ∀ w, Below ge W w → w.heap[ge]? = some (.cells #[.int .u8 kd, .int .i64 th, .int .i64 0, .int .i64 x0, .int .i64 x1, .int .i64 0, .int .u8 0] 23 (0, 0)) → Q .normal ⟨putAll T0 regP22_ds [.slice (some ⟨gx, 0, none⟩) 2 2, .pointer (some ⟨gx, 0, none⟩), .int .i64 x0, .slice (some ⟨gx, 0, none⟩) 2 2, .pointer (some ⟨gx, 1, none⟩), .int .i64 x1, .pointer (some ⟨ge, 3, none⟩), .pointer (some ⟨ge, 4, none⟩)], []⟩ w) : (Code.region id ops true).wp Tryd.prog Q ⟨T0, []⟩ W := by
  subst hops
  refine wp_region_valsS ([.slice (some ⟨gx, 0, none⟩) 2 2, .pointer (some ⟨gx, 0, none⟩), .int .i64 x0, .slice (some ⟨gx, 0, none⟩) 2 2, .pointer (some ⟨gx, 1, none⟩), .int .i64 x1, .pointer (some ⟨ge, 3, none⟩), undef, .pointer (some ⟨ge, 4, none⟩), undef] : List Value) regP22_D (fun don w => Below ge W w ∧ w.heap[ge]? = some (.cells #[.int .u8 kd, .int .i64 th, .int .i64 0, (if don 7 = true then .int .i64 x0 else .int .i64 0), (if don 9 = true then .int .i64 x1 else .int .i64 0), .int .i64 0, .int .u8 0] 23 (0, 0))) W T0 (show regP22_ds.Nodup by decide) (fun x hx => ?_) (by kernel_rfl) (by kernel_rfl) ?_ (fun i o ho hi don a w hT hW hdn hM K hK => ?_) ?_
  · have hall : (regP22_ds.all fun d => decide (d < 100)) = true := by decide
    have := List.all_eq_true.1 hall x hx
    simp only [decide_eq_true_eq] at this
    omega
  · exact ⟨(Below.refl _ _).drew, he⟩
  · have hT0 : ∀ t v, t ∉ regP22_ds → T0[t]? = some v → a.tmps[t]?.getD undef = v := fun t v ht hv => by rw [hT t ht, hv]; rfl
    match i, hi with
    | 0, _ => exact v_move 7 (opAtW ho (by kernel_rfl)) (hT0 7 _ (by decide) h7) (hK _ hM)
    | 1, _ => exact p_idx0 92 (opAtW ho (by kernel_rfl)) ((hW 0 (by kernel_rfl)).2 92 rfl) (hK _ hM)
    | 2, _ => exact p_load 93 (opAtW ho (by kernel_rfl)) ((hW 1 (by kernel_rfl)).2 93 rfl) (cell_of_row w gx 0 _ _ _ ((hM.1.block gx hge).trans hx)) (hK _ hM)
    | 3, _ => exact v_move 7 (opAtW ho (by kernel_rfl)) (hT0 7 _ (by decide) h7) (hK _ hM)
    | 4, _ => exact p_idx1 95 (opAtW ho (by kernel_rfl)) ((hW 3 (by kernel_rfl)).2 95 rfl) (hK _ hM)
    | 5, _ => exact p_load 96 (opAtW ho (by kernel_rfl)) ((hW 4 (by kernel_rfl)).2 96 rfl) (cell_of_row w gx 1 _ _ _ ((hM.1.block gx hge).trans hx)) (hK _ hM)
    | 6, _ => exact p_field3 12 (opAtW ho (by kernel_rfl)) (hT0 12 _ (by decide) h12) (hK _ hM)
    | 7, _ => exact p_storeI 98 94 (dstW ho (by kernel_rfl)) (opAtW ho (by kernel_rfl)) ((hW 6 (by kernel_rfl)).2 98 rfl) ((hW 2 (by kernel_rfl)).2 94 rfl) (cell_of_row w ge 3 _ _ _ hM.2) (frozen_of_row w ge 3 _ _ hM.2) (hK _ ⟨hM.1.setCell (p := ⟨ge, 3, none⟩) (Nat.le_refl _) _, store_row (v := .int .i64 x0) hM.2 rfl⟩)
    | 8, _ => exact p_field4 12 (opAtW ho (by kernel_rfl)) (hT0 12 _ (by decide) h12) (hK _ hM)
    | 9, _ => exact p_storeI 99 97 (dstW ho (by kernel_rfl)) (opAtW ho (by kernel_rfl)) ((hW 8 (by kernel_rfl)).2 99 rfl) ((hW 5 (by kernel_rfl)).2 97 rfl) (cell_of_row w ge 4 _ _ _ hM.2) (frozen_of_row w ge 4 _ _ hM.2) (hK _ ⟨hM.1.setCell (p := ⟨ge, 4, none⟩) (Nat.le_refl _) _, store_row (v := .int .i64 x1) hM.2 rfl⟩)
    | i + 10, h => exact absurd (show i + 10 < 10 from h) (by omega)
  · intro w hM
    exact hend w hM.1 hM.2
noncomputable def regP25_ops : Array Oper := opsW Tryd.f8 25
def regP25_D : List (Option Nat) := [some 103, some 104, some 105, some 106, some 107, some 108, some 109, none, some 110, none]
def regP25_ds : List Nat := [103, 104, 105, 106, 107, 108, 109, 110]
set_option maxRecDepth 100000 in
set_option maxHeartbeats 4000000 in
theorem regP25 {id : Nat} {ops : Array Oper} (hops : ops = regP25_ops) (T0 : Array Value) (hsz : 111 ≤ T0.size) (W : World) (gx ge : Nat) (hge : gx < ge) (x0 x1 kd th : Int) (hx : W.heap[gx]? = some (.cells #[.int .i64 x0, .int .i64 x1] 2 (0, 0))) (he : W.heap[ge]? = some (.cells #[.int .u8 kd, .int .i64 th, .int .i64 0, .int .i64 0, .int .i64 0, .int .i64 0, .int .u8 0] 23 (0, 0))) (h7 : T0[7]? = some (.slice (some ⟨gx, 0, none⟩) 2 2)) (h12 : T0[12]? = some (.pointer (some ⟨ge, 0, none⟩))) {Q : Exit → Act → World → Prop}
    (hend : ∀ w, Below ge W w → w.heap[ge]? = some (.cells #[.int .u8 kd, .int .i64 th, .int .i64 0, .int .i64 x0, .int .i64 0, .int .i64 x1, .int .u8 0] 23 (0, 0)) → Q .normal ⟨putAll T0 regP25_ds [.slice (some ⟨gx, 0, none⟩) 2 2, .pointer (some ⟨gx, 0, none⟩), .int .i64 x0, .slice (some ⟨gx, 0, none⟩) 2 2, .pointer (some ⟨gx, 1, none⟩), .int .i64 x1, .pointer (some ⟨ge, 3, none⟩), .pointer (some ⟨ge, 5, none⟩)], []⟩ w) : (Code.region id ops true).wp Tryd.prog Q ⟨T0, []⟩ W := by
  subst hops
  refine wp_region_valsS ([.slice (some ⟨gx, 0, none⟩) 2 2, .pointer (some ⟨gx, 0, none⟩), .int .i64 x0, .slice (some ⟨gx, 0, none⟩) 2 2, .pointer (some ⟨gx, 1, none⟩), .int .i64 x1, .pointer (some ⟨ge, 3, none⟩), undef, .pointer (some ⟨ge, 5, none⟩), undef] : List Value) regP25_D (fun don w => Below ge W w ∧ w.heap[ge]? = some (.cells #[.int .u8 kd, .int .i64 th, .int .i64 0, (if don 7 = true then .int .i64 x0 else .int .i64 0), .int .i64 0, (if don 9 = true then .int .i64 x1 else .int .i64 0), .int .u8 0] 23 (0, 0))) W T0 (show regP25_ds.Nodup by decide) (fun x hx => ?_) (by kernel_rfl) (by kernel_rfl) ?_ (fun i o ho hi don a w hT hW hdn hM K hK => ?_) ?_
  · have hall : (regP25_ds.all fun d => decide (d < 111)) = true := by decide
    have := List.all_eq_true.1 hall x hx
    simp only [decide_eq_true_eq] at this
    omega
  · exact ⟨(Below.refl _ _).drew, he⟩
  · have hT0 : ∀ t v, t ∉ regP25_ds → T0[t]? = some v → a.tmps[t]?.getD undef = v := fun t v ht hv => by rw [hT t ht, hv]; rfl
    match i, hi with
    | 0, _ => exact v_move 7 (opAtW ho (by kernel_rfl)) (hT0 7 _ (by decide) h7) (hK _ hM)
    | 1, _ => exact p_idx0 103 (opAtW ho (by kernel_rfl)) ((hW 0 (by kernel_rfl)).2 103 rfl) (hK _ hM)
    | 2, _ => exact p_load 104 (opAtW ho (by kernel_rfl)) ((hW 1 (by kernel_rfl)).2 104 rfl) (cell_of_row w gx 0 _ _ _ ((hM.1.block gx hge).trans hx)) (hK _ hM)
    | 3, _ => exact v_move 7 (opAtW ho (by kernel_rfl)) (hT0 7 _ (by decide) h7) (hK _ hM)
    | 4, _ => exact p_idx1 106 (opAtW ho (by kernel_rfl)) ((hW 3 (by kernel_rfl)).2 106 rfl) (hK _ hM)
    | 5, _ => exact p_load 107 (opAtW ho (by kernel_rfl)) ((hW 4 (by kernel_rfl)).2 107 rfl) (cell_of_row w gx 1 _ _ _ ((hM.1.block gx hge).trans hx)) (hK _ hM)
    | 6, _ => exact p_field3 12 (opAtW ho (by kernel_rfl)) (hT0 12 _ (by decide) h12) (hK _ hM)
    | 7, _ => exact p_storeI 109 105 (dstW ho (by kernel_rfl)) (opAtW ho (by kernel_rfl)) ((hW 6 (by kernel_rfl)).2 109 rfl) ((hW 2 (by kernel_rfl)).2 105 rfl) (cell_of_row w ge 3 _ _ _ hM.2) (frozen_of_row w ge 3 _ _ hM.2) (hK _ ⟨hM.1.setCell (p := ⟨ge, 3, none⟩) (Nat.le_refl _) _, store_row (v := .int .i64 x0) hM.2 rfl⟩)
    | 8, _ => exact p_field5 12 (opAtW ho (by kernel_rfl)) (hT0 12 _ (by decide) h12) (hK _ hM)
    | 9, _ => exact p_storeL 110 108 (dstW ho (by kernel_rfl)) (opAtW ho (by kernel_rfl)) ((hW 8 (by kernel_rfl)).2 110 rfl) ((hW 5 (by kernel_rfl)).2 108 rfl) (cell_of_row w ge 5 _ _ _ hM.2) (frozen_of_row w ge 5 _ _ hM.2) (hK _ ⟨hM.1.setCell (p := ⟨ge, 5, none⟩) (Nat.le_refl _) _, store_row (v := .int .i64 x1) hM.2 rfl⟩)
    | i + 10, h => exact absurd (show i + 10 < 10 from h) (by omega)
  · intro w hM
    exact hend w hM.1 hM.2
noncomputable def regP37_ops : Array Oper := opsW Tryd.f8 37
def regP37_D : List (Option Nat) := [some 140, some 141, some 142, some 143, some 144, some 145, some 146, some 147, none, some 148, none]
def regP37_ds : List Nat := [140, 141, 142, 143, 144, 145, 146, 147, 148]
set_option maxRecDepth 100000 in
set_option maxHeartbeats 4000000 in
theorem regP37 {id : Nat} {ops : Array Oper} (hops : ops = regP37_ops) (T0 : Array Value) (hsz : 149 ≤ T0.size) (W : World) (gx ge : Nat) (hge : gx < ge) (x0 x1 kd th : Int) (hc0 : 0 ≤ x0) (hc1 : x0 ≤ 255) (hx : W.heap[gx]? = some (.cells #[.int .i64 x0, .int .i64 x1] 2 (0, 0))) (he : W.heap[ge]? = some (.cells #[.int .u8 kd, .int .i64 th, .int .i64 0, .int .i64 0, .int .i64 0, .int .i64 0, .int .u8 0] 23 (0, 0))) (h7 : T0[7]? = some (.slice (some ⟨gx, 0, none⟩) 2 2)) (h12 : T0[12]? = some (.pointer (some ⟨ge, 0, none⟩))) {Q : Exit → Act → World → Prop}
    (hend : ∀ w, Below ge W w → w.heap[ge]? = some (.cells #[.int .u8 kd, .int .i64 th, .int .i64 0, .int .i64 x1, .int .i64 0, .int .i64 0, .int .u8 x0] 23 (0, 0)) → Q .normal ⟨putAll T0 regP37_ds [.slice (some ⟨gx, 0, none⟩) 2 2, .pointer (some ⟨gx, 0, none⟩), .int .i64 x0, .int .u8 x0, .slice (some ⟨gx, 0, none⟩) 2 2, .pointer (some ⟨gx, 1, none⟩), .int .i64 x1, .pointer (some ⟨ge, 6, none⟩), .pointer (some ⟨ge, 3, none⟩)], []⟩ w) : (Code.region id ops true).wp Tryd.prog Q ⟨T0, []⟩ W := by
  subst hops
  refine wp_region_valsS ([.slice (some ⟨gx, 0, none⟩) 2 2, .pointer (some ⟨gx, 0, none⟩), .int .i64 x0, .int .u8 x0, .slice (some ⟨gx, 0, none⟩) 2 2, .pointer (some ⟨gx, 1, none⟩), .int .i64 x1, .pointer (some ⟨ge, 6, none⟩), undef, .pointer (some ⟨ge, 3, none⟩), undef] : List Value) regP37_D (fun don w => Below ge W w ∧ w.heap[ge]? = some (.cells #[.int .u8 kd, .int .i64 th, .int .i64 0, (if don 10 = true then .int .i64 x1 else .int .i64 0), .int .i64 0, .int .i64 0, (if don 8 = true then .int .u8 x0 else .int .u8 0)] 23 (0, 0))) W T0 (show regP37_ds.Nodup by decide) (fun x hx => ?_) (by kernel_rfl) (by kernel_rfl) ?_ (fun i o ho hi don a w hT hW hdn hM K hK => ?_) ?_
  · have hall : (regP37_ds.all fun d => decide (d < 149)) = true := by decide
    have := List.all_eq_true.1 hall x hx
    simp only [decide_eq_true_eq] at this
    omega
  · exact ⟨(Below.refl _ _).drew, he⟩
  · have hT0 : ∀ t v, t ∉ regP37_ds → T0[t]? = some v → a.tmps[t]?.getD undef = v := fun t v ht hv => by rw [hT t ht, hv]; rfl
    match i, hi with
    | 0, _ => exact v_move 7 (opAtW ho (by kernel_rfl)) (hT0 7 _ (by decide) h7) (hK _ hM)
    | 1, _ => exact p_idx0 140 (opAtW ho (by kernel_rfl)) ((hW 0 (by kernel_rfl)).2 140 rfl) (hK _ hM)
    | 2, _ => exact p_load 141 (opAtW ho (by kernel_rfl)) ((hW 1 (by kernel_rfl)).2 141 rfl) (cell_of_row w gx 0 _ _ _ ((hM.1.block gx hge).trans hx)) (hK _ hM)
    | 3, _ => exact p_conv 142 hc0 hc1 (opAtW ho (by kernel_rfl)) ((hW 2 (by kernel_rfl)).2 142 rfl) (hK _ hM)
    | 4, _ => exact v_move 7 (opAtW ho (by kernel_rfl)) (hT0 7 _ (by decide) h7) (hK _ hM)
    | 5, _ => exact p_idx1 144 (opAtW ho (by kernel_rfl)) ((hW 4 (by kernel_rfl)).2 144 rfl) (hK _ hM)
    | 6, _ => exact p_load 145 (opAtW ho (by kernel_rfl)) ((hW 5 (by kernel_rfl)).2 145 rfl) (cell_of_row w gx 1 _ _ _ ((hM.1.block gx hge).trans hx)) (hK _ hM)
    | 7, _ => exact p_field6 12 (opAtW ho (by kernel_rfl)) (hT0 12 _ (by decide) h12) (hK _ hM)
    | 8, _ => exact p_storeB 147 143 (dstW ho (by kernel_rfl)) (opAtW ho (by kernel_rfl)) ((hW 7 (by kernel_rfl)).2 147 rfl) ((hW 3 (by kernel_rfl)).2 143 rfl) (cell_of_row w ge 6 _ _ _ hM.2) (frozen_of_row w ge 6 _ _ hM.2) (hK _ ⟨hM.1.setCell (p := ⟨ge, 6, none⟩) (Nat.le_refl _) _, store_row (v := .int .u8 x0) hM.2 rfl⟩)
    | 9, _ => exact p_field3 12 (opAtW ho (by kernel_rfl)) (hT0 12 _ (by decide) h12) (hK _ hM)
    | 10, _ => exact p_storeI 148 146 (dstW ho (by kernel_rfl)) (opAtW ho (by kernel_rfl)) ((hW 9 (by kernel_rfl)).2 148 rfl) ((hW 6 (by kernel_rfl)).2 146 rfl) (cell_of_row w ge 3 _ _ _ hM.2) (frozen_of_row w ge 3 _ _ hM.2) (hK _ ⟨hM.1.setCell (p := ⟨ge, 3, none⟩) (Nat.le_refl _) _, store_row (v := .int .i64 x1) hM.2 rfl⟩)
    | i + 11, h => exact absurd (show i + 11 < 11 from h) (by omega)
  · intro w hM
    exact hend w hM.1 hM.2
end Go.Proofs.YtfbnigikofidoaaDoor
