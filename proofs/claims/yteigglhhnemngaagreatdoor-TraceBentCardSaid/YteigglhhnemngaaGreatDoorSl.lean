/-
  OPERATIONS of drawn regions of package shape, one by one: what each leaves. Laid by gen/gen_sl.py. Conditions: as they stand.
-/
import Derived.Test.YteigglhhnemngaaGreatDoorQ10
import Derived.Test.YteigglhhnemngaaGreatDoorQ08
import Derived.Test.YteigglhhnemngaaGreatDoorSi
namespace Go.Proofs.YteigglhhnemngaaGreatDoor
set_option maxRecDepth 100000
open Go.RowKit
set_option linter.unusedVariables false
section
variable {a : Act} {w : World} {K : Act → World → Prop} {Q : Exit → Act → World → Prop} {o : Oper}
theorem u_nilS (x : Nat) {p : Addr} (ho : o.op = .nilCheck (.tmp x)) (hx : a.tmps[x]?.getD undef = .pointer (some p)) (hK : K (a.put o.dst (.pointer (some p))) w) : Oper.wp Tryz.prog o a w K Q := by
  obtain ⟨dst, op, type, pos, after, guard⟩ := o
  have ho' : op = _ := ho
  subst ho'
  clear ho
  go_simp
  exact hK
theorem u_f66_0 (x : Nat) {g q : Nat} (ho : o.op = .fieldAddr 161 (.tmp x) 0) (hx : a.tmps[x]?.getD undef = .pointer (some ⟨g, q, none⟩)) (hK : K (a.put o.dst (.pointer (some ⟨g, q, none⟩))) w) : Oper.wp Tryz.prog o a w K Q := by
  obtain ⟨dst, op, type, pos, after, guard⟩ := o
  have ho' : op = _ := ho
  subst ho'
  clear ho
  go_simp
  exact hK
theorem u_f66_3 (x : Nat) {g q : Nat} (ho : o.op = .fieldAddr 161 (.tmp x) 3) (hx : a.tmps[x]?.getD undef = .pointer (some ⟨g, q, none⟩)) (hK : K (a.put o.dst (.pointer (some ⟨g, q + 5, none⟩))) w) : Oper.wp Tryz.prog o a w K Q := by
  obtain ⟨dst, op, type, pos, after, guard⟩ := o
  have ho' : op = _ := ho
  subst ho'
  clear ho
  go_simp
  exact hK
theorem u_f63_0 (x : Nat) {g q : Nat} (ho : o.op = .fieldAddr 158 (.tmp x) 0) (hx : a.tmps[x]?.getD undef = .pointer (some ⟨g, q, none⟩)) (hK : K (a.put o.dst (.pointer (some ⟨g, q, none⟩))) w) : Oper.wp Tryz.prog o a w K Q := by
  obtain ⟨dst, op, type, pos, after, guard⟩ := o
  have ho' : op = _ := ho
  subst ho'
  clear ho
  go_simp
  exact hK
theorem u_f63_1 (x : Nat) {g q : Nat} (ho : o.op = .fieldAddr 158 (.tmp x) 1) (hx : a.tmps[x]?.getD undef = .pointer (some ⟨g, q, none⟩)) (hK : K (a.put o.dst (.pointer (some ⟨g, q + 1, none⟩))) w) : Oper.wp Tryz.prog o a w K Q := by
  obtain ⟨dst, op, type, pos, after, guard⟩ := o
  have ho' : op = _ := ho
  subst ho'
  clear ho
  go_simp
  exact hK
theorem u_f63_2 (x : Nat) {g q : Nat} (ho : o.op = .fieldAddr 158 (.tmp x) 2) (hx : a.tmps[x]?.getD undef = .pointer (some ⟨g, q, none⟩)) (hK : K (a.put o.dst (.pointer (some ⟨g, q + 2, none⟩))) w) : Oper.wp Tryz.prog o a w K Q := by
  obtain ⟨dst, op, type, pos, after, guard⟩ := o
  have ho' : op = _ := ho
  subst ho'
  clear ho
  go_simp
  exact hK
theorem u_f63_3 (x : Nat) {g q : Nat} (ho : o.op = .fieldAddr 158 (.tmp x) 3) (hx : a.tmps[x]?.getD undef = .pointer (some ⟨g, q, none⟩)) (hK : K (a.put o.dst (.pointer (some ⟨g, q + 3, none⟩))) w) : Oper.wp Tryz.prog o a w K Q := by
  obtain ⟨dst, op, type, pos, after, guard⟩ := o
  have ho' : op = _ := ho
  subst ho'
  clear ho
  go_simp
  exact hK
theorem u_f63_4 (x : Nat) {g q : Nat} (ho : o.op = .fieldAddr 158 (.tmp x) 4) (hx : a.tmps[x]?.getD undef = .pointer (some ⟨g, q, none⟩)) (hK : K (a.put o.dst (.pointer (some ⟨g, q + 4, none⟩))) w) : Oper.wp Tryz.prog o a w K Q := by
  obtain ⟨dst, op, type, pos, after, guard⟩ := o
  have ho' : op = _ := ho
  subst ho'
  clear ho
  go_simp
  exact hK
theorem u_f63_5 (x : Nat) {g q : Nat} (ho : o.op = .fieldAddr 158 (.tmp x) 5) (hx : a.tmps[x]?.getD undef = .pointer (some ⟨g, q, none⟩)) (hK : K (a.put o.dst (.pointer (some ⟨g, q + 5, none⟩))) w) : Oper.wp Tryz.prog o a w K Q := by
  obtain ⟨dst, op, type, pos, after, guard⟩ := o
  have ho' : op = _ := ho
  subst ho'
  clear ho
  go_simp
  exact hK
theorem u_f63_6 (x : Nat) {g q : Nat} (ho : o.op = .fieldAddr 158 (.tmp x) 6) (hx : a.tmps[x]?.getD undef = .pointer (some ⟨g, q, none⟩)) (hK : K (a.put o.dst (.pointer (some ⟨g, q + 6, none⟩))) w) : Oper.wp Tryz.prog o a w K Q := by
  obtain ⟨dst, op, type, pos, after, guard⟩ := o
  have ho' : op = _ := ho
  subst ho'
  clear ho
  go_simp
  exact hK
theorem u_f63_7 (x : Nat) {g q : Nat} (ho : o.op = .fieldAddr 158 (.tmp x) 7) (hx : a.tmps[x]?.getD undef = .pointer (some ⟨g, q, none⟩)) (hK : K (a.put o.dst (.pointer (some ⟨g, q + 38, none⟩))) w) : Oper.wp Tryz.prog o a w K Q := by
  obtain ⟨dst, op, type, pos, after, guard⟩ := o
  have ho' : op = _ := ho
  subst ho'
  clear ho
  go_simp
  exact hK
theorem u_f63_8 (x : Nat) {g q : Nat} (ho : o.op = .fieldAddr 158 (.tmp x) 8) (hx : a.tmps[x]?.getD undef = .pointer (some ⟨g, q, none⟩)) (hK : K (a.put o.dst (.pointer (some ⟨g, q + 70, none⟩))) w) : Oper.wp Tryz.prog o a w K Q := by
  obtain ⟨dst, op, type, pos, after, guard⟩ := o
  have ho' : op = _ := ho
  subst ho'
  clear ho
  go_simp
  exact hK
theorem u_f58_0 (x : Nat) {g q : Nat} (ho : o.op = .fieldAddr 153 (.tmp x) 0) (hx : a.tmps[x]?.getD undef = .pointer (some ⟨g, q, none⟩)) (hK : K (a.put o.dst (.pointer (some ⟨g, q, none⟩))) w) : Oper.wp Tryz.prog o a w K Q := by
  obtain ⟨dst, op, type, pos, after, guard⟩ := o
  have ho' : op = _ := ho
  subst ho'
  clear ho
  go_simp
  exact hK
theorem u_f58_1 (x : Nat) {g q : Nat} (ho : o.op = .fieldAddr 153 (.tmp x) 1) (hx : a.tmps[x]?.getD undef = .pointer (some ⟨g, q, none⟩)) (hK : K (a.put o.dst (.pointer (some ⟨g, q + 1, none⟩))) w) : Oper.wp Tryz.prog o a w K Q := by
  obtain ⟨dst, op, type, pos, after, guard⟩ := o
  have ho' : op = _ := ho
  subst ho'
  clear ho
  go_simp
  exact hK
theorem u_f56_0 (x : Nat) {g q : Nat} (ho : o.op = .fieldAddr 151 (.tmp x) 0) (hx : a.tmps[x]?.getD undef = .pointer (some ⟨g, q, none⟩)) (hK : K (a.put o.dst (.pointer (some ⟨g, q, none⟩))) w) : Oper.wp Tryz.prog o a w K Q := by
  obtain ⟨dst, op, type, pos, after, guard⟩ := o
  have ho' : op = _ := ho
  subst ho'
  clear ho
  go_simp
  exact hK
theorem u_f56_1 (x : Nat) {g q : Nat} (ho : o.op = .fieldAddr 151 (.tmp x) 1) (hx : a.tmps[x]?.getD undef = .pointer (some ⟨g, q, none⟩)) (hK : K (a.put o.dst (.pointer (some ⟨g, q + 1, none⟩))) w) : Oper.wp Tryz.prog o a w K Q := by
  obtain ⟨dst, op, type, pos, after, guard⟩ := o
  have ho' : op = _ := ho
  subst ho'
  clear ho
  go_simp
  exact hK
theorem u_f56_2 (x : Nat) {g q : Nat} (ho : o.op = .fieldAddr 151 (.tmp x) 2) (hx : a.tmps[x]?.getD undef = .pointer (some ⟨g, q, none⟩)) (hK : K (a.put o.dst (.pointer (some ⟨g, q + 2, none⟩))) w) : Oper.wp Tryz.prog o a w K Q := by
  obtain ⟨dst, op, type, pos, after, guard⟩ := o
  have ho' : op = _ := ho
  subst ho'
  clear ho
  go_simp
  exact hK
theorem u_f27_1 (x : Nat) {g q : Nat} (ho : o.op = .fieldAddr 50 (.tmp x) 1) (hx : a.tmps[x]?.getD undef = .pointer (some ⟨g, q, none⟩)) (hK : K (a.put o.dst (.pointer (some ⟨g, q + 1, none⟩))) w) : Oper.wp Tryz.prog o a w K Q := by
  obtain ⟨dst, op, type, pos, after, guard⟩ := o
  have ho' : op = _ := ho
  subst ho'
  clear ho
  go_simp
  exact hK
theorem u_f27_3 (x : Nat) {g q : Nat} (ho : o.op = .fieldAddr 50 (.tmp x) 3) (hx : a.tmps[x]?.getD undef = .pointer (some ⟨g, q, none⟩)) (hK : K (a.put o.dst (.pointer (some ⟨g, q + 3, none⟩))) w) : Oper.wp Tryz.prog o a w K Q := by
  obtain ⟨dst, op, type, pos, after, guard⟩ := o
  have ho' : op = _ := ho
  subst ho'
  clear ho
  go_simp
  exact hK
theorem u_f27_4 (x : Nat) {g q : Nat} (ho : o.op = .fieldAddr 50 (.tmp x) 4) (hx : a.tmps[x]?.getD undef = .pointer (some ⟨g, q, none⟩)) (hK : K (a.put o.dst (.pointer (some ⟨g, q + 4, none⟩))) w) : Oper.wp Tryz.prog o a w K Q := by
  obtain ⟨dst, op, type, pos, after, guard⟩ := o
  have ho' : op = _ := ho
  subst ho'
  clear ho
  go_simp
  exact hK
theorem u_i59 (x y : Nat) {g q k : Nat} (hk : k < 32) (ho : o.op = .indexAddr 154 (.tmp x) (.tmp y)) (hx : a.tmps[x]?.getD undef = .pointer (some ⟨g, q, none⟩)) (hy : a.tmps[y]?.getD undef = .int .i64 (k : Int)) (hK : K (a.put o.dst (.pointer (some ⟨g, q + k * 2, none⟩))) w) : Oper.wp Tryz.prog o a w K Q := by
  obtain ⟨dst, op, type, pos, after, guard⟩ := o
  have ho' : op = _ := ho
  subst ho'
  clear ho
  have i1 : (0 : Int) ≤ (k : Int) := by omega
  have i2 : (k : Int) < 32 := by omega
  go_simp
  exact hK
theorem u_i61 (x y : Nat) {g q k : Nat} (hk : k < 32) (ho : o.op = .indexAddr 156 (.tmp x) (.tmp y)) (hx : a.tmps[x]?.getD undef = .pointer (some ⟨g, q, none⟩)) (hy : a.tmps[y]?.getD undef = .int .i64 (k : Int)) (hK : K (a.put o.dst (.pointer (some ⟨g, q + k, none⟩))) w) : Oper.wp Tryz.prog o a w K Q := by
  obtain ⟨dst, op, type, pos, after, guard⟩ := o
  have ho' : op = _ := ho
  subst ho'
  clear ho
  have i1 : (0 : Int) ≤ (k : Int) := by omega
  have i2 : (k : Int) < 32 := by omega
  go_simp
  exact hK
theorem u_loadiS (x : Nat) {p : Addr} {n : Int} (ho : o.op = .load 3 (.tmp x)) (hx : a.tmps[x]?.getD undef = .pointer (some p)) (hc : w.cell? p = some (.int .i64 n)) (hK : K (a.put o.dst (.int .i64 n)) w) : Oper.wp Tryz.prog o a w K Q := by
  obtain ⟨dst, op, type, pos, after, guard⟩ := o
  have ho' : op = _ := ho
  subst ho'
  clear ho
  go_simp
  exact hK
theorem range2 {w : World} {g q : Nat} {x y : Value} (h0 : w.cell? ⟨g, q, none⟩ = some x) (h1 : w.cell? ⟨g, q + 1, none⟩ = some y) : w.rangeAt g q [x, y] := fun j v hj => by
  match j with
  | 0 => cases hj; exact h0
  | 1 => cases hj; exact h1
  | j + 2 => simp at hj
theorem u_load58 (x : Nat) {g q : Nat} {n m : Int} (ho : o.op = .load 153 (.tmp x)) (hx : a.tmps[x]?.getD undef = .pointer (some ⟨g, q, none⟩)) (hc : w.cell? ⟨g, q, none⟩ = some (.int .i64 n) ∧ w.cell? ⟨g, q + 1, none⟩ = some (.int .i64 m)) (hK : K (a.put o.dst (.agg #[.int .i64 n, .int .i64 m])) w) : Oper.wp Tryz.prog o a w K Q :=
  wp_load_mid _ _ ho g q (by simpa [Act.eval, Array.getD_eq_getD_getElem?] using hx) [.int .i64 n, .int .i64 m] _ (range2 hc.1 hc.2) Tryz.underlying153 rfl (by kernel_rfl) hK
theorem u_load27 (x : Nat) {g : Nat} {cs : Array Value} (ho : o.op = .load 50 (.tmp x)) (hx : a.tmps[x]?.getD undef = .pointer (some ⟨g, 0, none⟩)) (hc : w.heap[g]? = some (.cells cs 50 (0, 0)) ∧ cs.size = 7) (hK : K (a.put o.dst (.agg cs)) w) : Oper.wp Tryz.prog o a w K Q := v_loadE x ho hx hc.1 hc.2 hK
theorem u_neq_i (x y : Nat) {n m : Int} (ho : o.op = .binOp .neq 3 (.tmp x) (.tmp y) 3) (hx : a.tmps[x]?.getD undef = .int .i64 n) (hy : a.tmps[y]?.getD undef = .int .i64 m) {r : Bool} (hr : (n != m) = r) (hK : K (a.put o.dst (.bool r)) w) : Oper.wp Tryz.prog o a w K Q := by
  obtain ⟨dst, op, type, pos, after, guard⟩ := o
  have ho' : op = _ := ho
  subst ho'
  clear ho
  subst hr
  go_simp
  exact hK
theorem u_neq_ic (x : Nat) {n m : Int} (ho : o.op = .binOp .neq 3 (.tmp x) (.const (.int .i64 m)) 3) (hx : a.tmps[x]?.getD undef = .int .i64 n) {r : Bool} (hr : (n != m) = r) (hK : K (a.put o.dst (.bool r)) w) : Oper.wp Tryz.prog o a w K Q := by
  obtain ⟨dst, op, type, pos, after, guard⟩ := o
  have ho' : op = _ := ho
  subst ho'
  clear ho
  subst hr
  go_simp
  exact hK
theorem u_eql_ic (x : Nat) {n m : Int} (ho : o.op = .binOp .eql 3 (.tmp x) (.const (.int .i64 m)) 3) (hx : a.tmps[x]?.getD undef = .int .i64 n) {r : Bool} (hr : (n == m) = r) (hK : K (a.put o.dst (.bool r)) w) : Oper.wp Tryz.prog o a w K Q := by
  obtain ⟨dst, op, type, pos, after, guard⟩ := o
  have ho' : op = _ := ho
  subst ho'
  clear ho
  subst hr
  go_simp
  exact hK
theorem u_gtr_i (x y : Nat) {n m : Int} (ho : o.op = .binOp .gtr 3 (.tmp x) (.tmp y) 3) (hx : a.tmps[x]?.getD undef = .int .i64 n) (hy : a.tmps[y]?.getD undef = .int .i64 m) {r : Bool} (hr : decide (m < n) = r) (hK : K (a.put o.dst (.bool r)) w) : Oper.wp Tryz.prog o a w K Q := by
  obtain ⟨dst, op, type, pos, after, guard⟩ := o
  have ho' : op = _ := ho
  subst ho'
  clear ho
  subst hr
  go_simp
  exact hK
theorem u_leq_i (x y : Nat) {n m : Int} (ho : o.op = .binOp .leq 3 (.tmp x) (.tmp y) 3) (hx : a.tmps[x]?.getD undef = .int .i64 n) (hy : a.tmps[y]?.getD undef = .int .i64 m) {r : Bool} (hr : decide (n ≤ m) = r) (hK : K (a.put o.dst (.bool r)) w) : Oper.wp Tryz.prog o a w K Q := by
  obtain ⟨dst, op, type, pos, after, guard⟩ := o
  have ho' : op = _ := ho
  subst ho'
  clear ho
  subst hr
  go_simp
  exact hK
theorem u_notTS (x : Nat) (ho : o.op = .unOp .not 4 (.tmp x)) (hx : a.tmps[x]?.getD undef = .bool true) (hK : K (a.put o.dst (.bool false)) w) : Oper.wp Tryz.prog o a w K Q := by
  obtain ⟨dst, op, type, pos, after, guard⟩ := o
  have ho' : op = _ := ho
  subst ho'
  clear ho
  go_simp
  exact hK
theorem u_notFS (x : Nat) (ho : o.op = .unOp .not 4 (.tmp x)) (hx : a.tmps[x]?.getD undef = .bool false) (hK : K (a.put o.dst (.bool true)) w) : Oper.wp Tryz.prog o a w K Q := by
  obtain ⟨dst, op, type, pos, after, guard⟩ := o
  have ho' : op = _ := ho
  subst ho'
  clear ho
  go_simp
  exact hK
theorem u_andF (x y : Nat) (ho : o.op = .pick (.tmp x) (.tmp y) (.const (.bool false))) (hx : a.tmps[x]?.getD undef = .bool false) (hK : K (a.put o.dst (.bool false)) w) : Oper.wp Tryz.prog o a w K Q := by
  obtain ⟨dst, op, type, pos, after, guard⟩ := o
  have ho' : op = _ := ho
  subst ho'
  clear ho
  go_simp
  exact hK
theorem u_storeiS (x y : Nat) {p : Addr} {u : Value} {n : Int} (ho : o.op = .store 3 (.tmp x) (.tmp y)) (hx : a.tmps[x]?.getD undef = .pointer (some p)) (hy : a.tmps[y]?.getD undef = .int .i64 n) (hc : w.cell? p = some u) (hf : w.frozen? p = false) (hK : K (a.put o.dst undef) (w.setCell p (.int .i64 n))) : Oper.wp Tryz.prog o a w K Q := by
  obtain ⟨dst, op, type, pos, after, guard⟩ := o
  have ho' : op = _ := ho
  subst ho'
  clear ho
  go_simp
  exact hK
theorem u_storeic (x : Nat) (n : Int) {p : Addr} {u : Value} (ho : o.op = .store 3 (.tmp x) (.const (.int .i64 n))) (hx : a.tmps[x]?.getD undef = .pointer (some p)) (hc : w.cell? p = some u) (hf : w.frozen? p = false) (hK : K (a.put o.dst undef) (w.setCell p (.int .i64 n))) : Oper.wp Tryz.prog o a w K Q := by
  obtain ⟨dst, op, type, pos, after, guard⟩ := o
  have ho' : op = _ := ho
  subst ho'
  clear ho
  go_simp
  exact hK
theorem u_storebc (x : Nat) (n : Bool) {p : Addr} {u : Value} (ho : o.op = .store 4 (.tmp x) (.const (.bool n))) (hx : a.tmps[x]?.getD undef = .pointer (some p)) (hc : w.cell? p = some u) (hf : w.frozen? p = false) (hK : K (a.put o.dst undef) (w.setCell p (.bool n))) : Oper.wp Tryz.prog o a w K Q := by
  obtain ⟨dst, op, type, pos, after, guard⟩ := o
  have ho' : op = _ := ho
  subst ho'
  clear ho
  go_simp
  exact hK
theorem u_storeC (t : TypeId) (x y : Nat) {g q : Nat} {cs : Array Value} (ho : o.op = .store t (.tmp x) (.tmp y)) (hx : a.tmps[x]?.getD undef = .pointer (some ⟨g, q, none⟩)) (hy : a.tmps[y]?.getD undef = .agg cs) (ht : w.there g q cs.size) (hi : (Tryz.prog.info? t).map (·.size) = some cs.size) (h1 : cs.all (·.oneCell') = true) (hK : K (a.put o.dst undef) (w.setCells g q cs.toList)) : Oper.wp Tryz.prog o a w K Q :=
  wp_store_mid t _ _ ho g q cs (by simpa [Act.eval, Array.getD_eq_getD_getElem?] using hx) (by simpa [Act.eval, Array.getD_eq_getD_getElem?] using hy) ht hi h1 hK
end
end Go.Proofs.YteigglhhnemngaaGreatDoor
