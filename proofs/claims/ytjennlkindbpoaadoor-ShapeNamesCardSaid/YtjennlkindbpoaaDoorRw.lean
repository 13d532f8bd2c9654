/-
  OPERATIONS of drawn regions of layer 12's laws, one by one: what each leaves. Conditions: as they stand.
-/
import Derived.Test.YtjennlkindbpoaaDoorWt
import Derived.Test.YtjennlkindbpoaaDoorRv
namespace Go.Proofs.YtjennlkindbpoaaDoor
set_option maxRecDepth 100000
open Go.RowKit
set_option linter.unusedVariables false
section
variable {a : Act} {w : World} {K : Act → World → Prop} {Q : Exit → Act → World → Prop} {o : Oper}
theorem v_move (x : Nat) {v : Value} (ho : o.op = .move (.tmp x)) (hx : a.tmps[x]?.getD undef = v) (hK : K (a.put o.dst (v)) w) : Oper.wp Tryd.prog o a w K Q := by
  obtain ⟨dst, op, type, pos, after, guard⟩ := o
  have ho' : op = _ := ho
  subst ho'
  clear ho
  go_simp
  exact hK
theorem v_assign (x : Nat) {v : Value} (ho : o.op = .assign (.tmp x)) (hx : a.tmps[x]?.getD undef = v) (hK : K (a.put o.dst (v)) w) : Oper.wp Tryd.prog o a w K Q := by
  obtain ⟨dst, op, type, pos, after, guard⟩ := o
  have ho' : op = _ := ho
  subst ho'
  clear ho
  go_simp
  exact hK
theorem v_field0 (x : Nat) {g : Nat} (ho : o.op = .fieldAddr 27 (.tmp x) 0) (hx : a.tmps[x]?.getD undef = .pointer (some ⟨g, 0, none⟩)) (hK : K (a.put o.dst (.pointer (some ⟨g, 0, none⟩))) w) : Oper.wp Tryd.prog o a w K Q := by
  obtain ⟨dst, op, type, pos, after, guard⟩ := o
  have ho' : op = _ := ho
  subst ho'
  clear ho
  go_simp
  exact hK
theorem v_loadB (x : Nat) {q : Addr} {n : Int} (ho : o.op = .load 5 (.tmp x)) (hx : a.tmps[x]?.getD undef = .pointer (some q)) (hc : w.cell? q = some (.int .u8 n)) (hK : K (a.put o.dst (.int .u8 n)) w) : Oper.wp Tryd.prog o a w K Q := by
  obtain ⟨dst, op, type, pos, after, guard⟩ := o
  have ho' : op = _ := ho
  subst ho'
  clear ho
  go_simp
  exact hK
theorem v_loadb (x : Nat) {q : Addr} {n : Bool} (ho : o.op = .load 4 (.tmp x)) (hx : a.tmps[x]?.getD undef = .pointer (some q)) (hc : w.cell? q = some (.bool n)) (hK : K (a.put o.dst (.bool n)) w) : Oper.wp Tryd.prog o a w K Q := by
  obtain ⟨dst, op, type, pos, after, guard⟩ := o
  have ho' : op = _ := ho
  subst ho'
  clear ho
  go_simp
  exact hK
theorem v_eqlc (x : Nat) {n c : Int} (ho : o.op = .binOp .eql 5 (.tmp x) (.const (.int .u8 c)) 5) (hx : a.tmps[x]?.getD undef = .int .u8 n) {r : Bool} (hr : (n == c) = r) (hK : K (a.put o.dst (.bool r)) w) : Oper.wp Tryd.prog o a w K Q := by
  obtain ⟨dst, op, type, pos, after, guard⟩ := o
  have ho' : op = _ := ho
  subst ho'
  clear ho
  subst hr
  go_simp
  exact hK
theorem v_eqlu (x y : Nat) {n m : Int} (ho : o.op = .binOp .eql 5 (.tmp x) (.tmp y) 5) (hx : a.tmps[x]?.getD undef = .int .u8 n) (hy : a.tmps[y]?.getD undef = .int .u8 m) {r : Bool} (hr : (n == m) = r) (hK : K (a.put o.dst (.bool r)) w) : Oper.wp Tryd.prog o a w K Q := by
  obtain ⟨dst, op, type, pos, after, guard⟩ := o
  have ho' : op = _ := ho
  subst ho'
  clear ho
  subst hr
  go_simp
  exact hK
theorem v_eqli (x y : Nat) {n m : Int} (ho : o.op = .binOp .eql 3 (.tmp x) (.tmp y) 3) (hx : a.tmps[x]?.getD undef = .int .i64 n) (hy : a.tmps[y]?.getD undef = .int .i64 m) {r : Bool} (hr : (n == m) = r) (hK : K (a.put o.dst (.bool r)) w) : Oper.wp Tryd.prog o a w K Q := by
  obtain ⟨dst, op, type, pos, after, guard⟩ := o
  have ho' : op = _ := ho
  subst ho'
  clear ho
  subst hr
  go_simp
  exact hK
theorem v_eqlb (x y : Nat) {n m : Bool} (ho : o.op = .binOp .eql 4 (.tmp x) (.tmp y) 4) (hx : a.tmps[x]?.getD undef = .bool n) (hy : a.tmps[y]?.getD undef = .bool m) {r : Bool} (hr : (n == m) = r) (hK : K (a.put o.dst (.bool r)) w) : Oper.wp Tryd.prog o a w K Q := by
  obtain ⟨dst, op, type, pos, after, guard⟩ := o
  have ho' : op = _ := ho
  subst ho'
  clear ho
  subst hr
  go_simp
  exact hK
theorem v_neqb (x y : Nat) {n m : Bool} (ho : o.op = .binOp .neq 4 (.tmp x) (.tmp y) 4) (hx : a.tmps[x]?.getD undef = .bool n) (hy : a.tmps[y]?.getD undef = .bool m) {r : Bool} (hr : (n != m) = r) (hK : K (a.put o.dst (.bool r)) w) : Oper.wp Tryd.prog o a w K Q := by
  obtain ⟨dst, op, type, pos, after, guard⟩ := o
  have ho' : op = _ := ho
  subst ho'
  clear ho
  subst hr
  go_simp
  exact hK
theorem v_eqls (x y : Nat) {n m : ByteArray} (ho : o.op = .binOp .eql 9 (.tmp x) (.tmp y) 9) (hx : a.tmps[x]?.getD undef = .string n) (hy : a.tmps[y]?.getD undef = .string m) {r : Bool} (hr : (n.toList == m.toList) = r) (hK : K (a.put o.dst (.bool r)) w) : Oper.wp Tryd.prog o a w K Q := by
  obtain ⟨dst, op, type, pos, after, guard⟩ := o
  have ho' : op = _ := ho
  subst ho'
  clear ho
  subst hr
  go_simp
  exact hK
theorem v_orT (x y : Nat) (ho : o.op = .pick (.tmp x) (.const (.bool true)) (.tmp y)) (hx : a.tmps[x]?.getD undef = .bool true) (hK : K (a.put o.dst (.bool true)) w) : Oper.wp Tryd.prog o a w K Q := by
  obtain ⟨dst, op, type, pos, after, guard⟩ := o
  have ho' : op = _ := ho
  subst ho'
  clear ho
  go_simp
  exact hK
theorem v_orF (x y : Nat) {v : Value} (ho : o.op = .pick (.tmp x) (.const (.bool true)) (.tmp y)) (hx : a.tmps[x]?.getD undef = .bool false) (hy : a.tmps[y]?.getD undef = v) (hK : K (a.put o.dst (v)) w) : Oper.wp Tryd.prog o a w K Q := by
  obtain ⟨dst, op, type, pos, after, guard⟩ := o
  have ho' : op = _ := ho
  subst ho'
  clear ho
  go_simp
  exact hK
theorem v_andT (x y : Nat) {v : Value} (ho : o.op = .pick (.tmp x) (.tmp y) (.const (.bool false))) (hx : a.tmps[x]?.getD undef = .bool true) (hy : a.tmps[y]?.getD undef = v) (hK : K (a.put o.dst (v)) w) : Oper.wp Tryd.prog o a w K Q := by
  obtain ⟨dst, op, type, pos, after, guard⟩ := o
  have ho' : op = _ := ho
  subst ho'
  clear ho
  go_simp
  exact hK
theorem v_loadE (x : Nat) {g : Nat} {cs : Array Value} (ho : o.op = .load 27 (.tmp x)) (hx : a.tmps[x]?.getD undef = .pointer (some ⟨g, 0, none⟩)) (hg : w.heap[g]? = some (.cells cs 27 (0, 0))) (hs : cs.size = 7) (hK : K (a.put o.dst (.agg cs)) w) : Oper.wp Tryd.prog o a w K Q :=
  wp_load_row _ _ ho g (by simpa [Act.eval, Array.getD_eq_getD_getElem?] using hx) 27 cs (0, 0) _ hg Tryd.underlying27 rfl (by rw [hs]; kernel_rfl) hK
theorem v_may (x y z u0 : Nat) {u : Value} (ho : o.op = .call { callee := .value (.func 24), args := #[.tmp x, .tmp y, .tmp z, .tmp u0], argTypes := #[27, 3, 3, 3] }) {v0 : Value} (h0 : a.tmps[x]?.getD undef = v0) {v1 : Value} (h1 : a.tmps[y]?.getD undef = v1) {v2 : Value} (h2 : a.tmps[z]?.getD undef = v2) {v3 : Value} (h3 : a.tmps[u0]?.getD undef = v3) (hc : Calls Tryd.prog 24 #[v0, v1, v2, v3] w fun r w' => r = .returned u ∧ Below w.heap.size w w') (hK : ∀ w', Below w.heap.size w w' → K (a.put o.dst u) w') : Oper.wp Tryd.prog o a w K Q := by
  obtain ⟨dst, op, type, pos, after, guard⟩ := o
  have ho' : op = _ := ho
  subst ho'
  clear ho
  have h1 := Tryd.func24
  have HC := Lib.hid hc
  clear hc
  go_simp
  refine HC.out.mono ?_
  rintro r w' ⟨rfl, hb⟩
  exact hK w' hb
theorem v_may342 (x : Nat) {u : Value} (ho : o.op = .call { callee := .value (.func 24), args := #[.tmp x, .const (.int .i64 3), .const (.int .i64 4), .const (.int .i64 2)], argTypes := #[27, 3, 3, 3] }) {v0 : Value} (h0 : a.tmps[x]?.getD undef = v0) (hc : Calls Tryd.prog 24 #[v0, (.int .i64 3), (.int .i64 4), (.int .i64 2)] w fun r w' => r = .returned u ∧ Below w.heap.size w w') (hK : ∀ w', Below w.heap.size w w' → K (a.put o.dst u) w') : Oper.wp Tryd.prog o a w K Q := by
  obtain ⟨dst, op, type, pos, after, guard⟩ := o
  have ho' : op = _ := ho
  subst ho'
  clear ho
  have h1 := Tryd.func24
  have HC := Lib.hid hc
  clear hc
  go_simp
  refine HC.out.mono ?_
  rintro r w' ⟨rfl, hb⟩
  exact hK w' hb
theorem v_mayR (x y z u0 : Nat) {u : Value} (ho : o.op = .call { callee := .value (.func 40), args := #[.tmp x, .tmp y, .tmp z, .tmp u0], argTypes := #[27, 3, 3, 3] }) {v0 : Value} (h0 : a.tmps[x]?.getD undef = v0) {v1 : Value} (h1 : a.tmps[y]?.getD undef = v1) {v2 : Value} (h2 : a.tmps[z]?.getD undef = v2) {v3 : Value} (h3 : a.tmps[u0]?.getD undef = v3) (hc : Calls Tryd.prog 40 #[v0, v1, v2, v3] w fun r w' => r = .returned u ∧ Below w.heap.size w w') (hK : ∀ w', Below w.heap.size w w' → K (a.put o.dst u) w') : Oper.wp Tryd.prog o a w K Q := by
  obtain ⟨dst, op, type, pos, after, guard⟩ := o
  have ho' : op = _ := ho
  subst ho'
  clear ho
  have h1 := Tryd.func40
  have HC := Lib.hid hc
  clear hc
  go_simp
  refine HC.out.mono ?_
  rintro r w' ⟨rfl, hb⟩
  exact hK w' hb
theorem v_name (x : Nat) {u : Value} (ho : o.op = .call { callee := .value (.func 33), args := #[.tmp x], argTypes := #[5] }) {v0 : Value} (h0 : a.tmps[x]?.getD undef = v0) (hc : Calls Tryd.prog 33 #[v0] w fun r w' => r = .returned u ∧ Below w.heap.size w w') (hK : ∀ w', Below w.heap.size w w' → K (a.put o.dst u) w') : Oper.wp Tryd.prog o a w K Q := by
  obtain ⟨dst, op, type, pos, after, guard⟩ := o
  have ho' : op = _ := ho
  subst ho'
  clear ho
  have h1 := Tryd.func33
  have HC := Lib.hid hc
  clear hc
  go_simp
  refine HC.out.mono ?_
  rintro r w' ⟨rfl, hb⟩
  exact hK w' hb
theorem v_nameR (x : Nat) {u : Value} (ho : o.op = .call { callee := .value (.func 76), args := #[.tmp x], argTypes := #[5] }) {v0 : Value} (h0 : a.tmps[x]?.getD undef = v0) (hc : Calls Tryd.prog 76 #[v0] w fun r w' => r = .returned u ∧ Below w.heap.size w w') (hK : ∀ w', Below w.heap.size w w' → K (a.put o.dst u) w') : Oper.wp Tryd.prog o a w K Q := by
  obtain ⟨dst, op, type, pos, after, guard⟩ := o
  have ho' : op = _ := ho
  subst ho'
  clear ho
  have h1 := Tryd.func76
  have HC := Lib.hid hc
  clear hc
  go_simp
  refine HC.out.mono ?_
  rintro r w' ⟨rfl, hb⟩
  exact hK w' hb
end
end Go.Proofs.YtjennlkindbpoaaDoor
