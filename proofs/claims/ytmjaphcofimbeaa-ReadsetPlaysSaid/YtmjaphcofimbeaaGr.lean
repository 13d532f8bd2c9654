/-
  OPERATIONS of the drawn region of ReadsetPlays, one by one. Conditions: as they stand.
-/
import Derived.Test.YtmjaphcofimbeaaGq
import Derived.Test.YtmjaphcofimbeaaRu
namespace Go.Proofs.Ytmjaphcofimbeaa
set_option maxRecDepth 100000
open Go.RowKit Go.Deep
set_option linter.unusedVariables false
section
variable {a : Act} {w : World} {K : Act → World → Prop} {Q : Exit → Act → World → Prop} {o : Oper}
theorem o_field0 (x g : Nat) (ho : o.op = Op.fieldAddr 36 (.tmp x) 0) (hx : a.tmps[x]?.getD undef = .pointer (some ⟨g, 0, none⟩)) (hK : K (a.put o.dst (.pointer (some ⟨g, 0, none⟩))) w) : Oper.wp Try.prog o a w K Q := by
  obtain ⟨dst, op, type, pos, after, guard⟩ := o
  have ho' : op = _ := ho
  subst ho'
  clear ho
  go_simp
  exact hK
theorem o_index (x y : Nat) (p : Addr) (len c k : Nat) (hk : k < len) (ho : o.op = Op.indexAddr 22 (.tmp x) (.tmp y)) (hx : a.tmps[x]?.getD undef = .slice (some p) len c) (hy : a.tmps[y]?.getD undef = .int .i64 k) (hK : K (a.put o.dst (.pointer (some (p.add k)))) w) : Oper.wp Try.prog o a w K Q := by
  obtain ⟨dst, op, type, pos, after, guard⟩ := o
  have ho' : op = _ := ho
  subst ho'
  clear ho
  have i1 : (0 : Int) ≤ (k : Int) := by omega
  have i2 : (k : Int) < (len : Int) := by omega
  go_simp
  exact hK
theorem o_int (x : Nat) (q : Addr) {n : Int} (ho : o.op = Op.load 3 (.tmp x)) (hx : a.tmps[x]?.getD undef = .pointer (some q)) (hv : w.cell? q = some (.int .i64 n)) (hK : K (a.put o.dst (.int .i64 n)) w) : Oper.wp Try.prog o a w K Q := by
  obtain ⟨dst, op, type, pos, after, guard⟩ := o
  have ho' : op = _ := ho
  subst ho'
  clear ho
  go_simp
  exact hK
theorem o_neqE (x y : Nat) {n : Int} (ho : o.op = Op.binOp .neq 25 (.tmp x) (.tmp y) 25) (hx : a.tmps[x]?.getD undef = .int .i64 n) (hy : a.tmps[y]?.getD undef = .int .i64 n) (hK : K (a.put o.dst (.bool false)) w) : Oper.wp Try.prog o a w K Q := by
  obtain ⟨dst, op, type, pos, after, guard⟩ := o
  have ho' : op = _ := ho
  subst ho'
  clear ho
  have i1 : (n != n) = false := bne_eq_false_iff_eq.2 rfl
  go_simp
  exact hK
theorem o_neqI (x y : Nat) {n : Int} (ho : o.op = Op.binOp .neq 3 (.tmp x) (.tmp y) 3) (hx : a.tmps[x]?.getD undef = .int .i64 n) (hy : a.tmps[y]?.getD undef = .int .i64 n) (hK : K (a.put o.dst (.bool false)) w) : Oper.wp Try.prog o a w K Q := by
  obtain ⟨dst, op, type, pos, after, guard⟩ := o
  have ho' : op = _ := ho
  subst ho'
  clear ho
  have i1 : (n != n) = false := bne_eq_false_iff_eq.2 rfl
  go_simp
  exact hK
theorem o_neqB (x y : Nat) {b : Bool} (ho : o.op = Op.binOp .neq 4 (.tmp x) (.tmp y) 4) (hx : a.tmps[x]?.getD undef = .bool b) (hy : a.tmps[y]?.getD undef = .bool b) (hK : K (a.put o.dst (.bool false)) w) : Oper.wp Try.prog o a w K Q := by
  obtain ⟨dst, op, type, pos, after, guard⟩ := o
  have ho' : op = _ := ho
  subst ho'
  clear ho
  have i1 : (b != b) = false := bne_self_eq_false b
  go_simp
  exact hK
theorem o_pick (x y : Nat) (ho : o.op = Op.pick (.tmp x) (.const (.bool true)) (.tmp y)) (hx : a.tmps[x]?.getD undef = .bool false) (hy : a.tmps[y]?.getD undef = .bool false) (hK : K (a.put o.dst (.bool false)) w) : Oper.wp Try.prog o a w K Q := by
  obtain ⟨dst, op, type, pos, after, guard⟩ := o
  have ho' : op = _ := ho
  subst ho'
  clear ho
  go_simp
  exact hK
theorem o_not (x : Nat) (ho : o.op = Op.unOp .not 4 (.tmp x)) (hx : a.tmps[x]?.getD undef = .bool true) (hK : K (a.put o.dst (.bool false)) w) : Oper.wp Try.prog o a w K Q := by
  obtain ⟨dst, op, type, pos, after, guard⟩ := o
  have ho' : op = _ := ho
  subst ho'
  clear ho
  go_simp
  exact hK
theorem o_add1 (x : Nat) {n : Int} (ho : o.op = Op.binOp .add 3 (.tmp x) (.const (.int .i64 1)) 3) (hx : a.tmps[x]?.getD undef = .int .i64 n) (hK : K (a.put o.dst (.int .i64 (IntKind.i64.wrap (n + 1)))) w) : Oper.wp Try.prog o a w K Q := by
  obtain ⟨dst, op, type, pos, after, guard⟩ := o
  have ho' : op = _ := ho
  subst ho'
  clear ho
  go_simp
  exact hK
theorem o_add (x0 : Nat) (x1 : Nat) {v0 v1 : Value} {P : Ending → World → Prop} (ho : o.op = .call { callee := .value (.func 9), args := #[.tmp x0, .tmp x1], argTypes := #[24, 3] }) (hx0 : a.tmps[x0]?.getD undef = v0) (hx1 : a.tmps[x1]?.getD undef = v1) (hc : Calls Try.prog 9 #[v0, v1] w P) (hK : ∀ e w', P e w' → ∃ r, e = .returned r ∧ K (a.put o.dst r) w') : Oper.wp Try.prog o a w K Q := by
  obtain ⟨dst, op, type, pos, after, guard⟩ := o
  have ho' : op = _ := ho
  subst ho'
  clear ho
  subst hx0 hx1
  have h1 := Try.func9
  go_simp
  refine hc.mono ?_
  rintro e w' h
  obtain ⟨r, rfl, h2⟩ := hK e w' h
  exact h2
theorem o_radd (x0 : Nat) (x1 : Nat) {v0 v1 : Value} {P : Ending → World → Prop} (ho : o.op = .call { callee := .value (.func 10), args := #[.tmp x0, .tmp x1], argTypes := #[28, 3] }) (hx0 : a.tmps[x0]?.getD undef = v0) (hx1 : a.tmps[x1]?.getD undef = v1) (hc : Calls Try.prog 10 #[v0, v1] w P) (hK : ∀ e w', P e w' → ∃ r, e = .returned r ∧ K (a.put o.dst r) w') : Oper.wp Try.prog o a w K Q := by
  obtain ⟨dst, op, type, pos, after, guard⟩ := o
  have ho' : op = _ := ho
  subst ho'
  clear ho
  subst hx0 hx1
  have h1 := Try.func10
  go_simp
  refine hc.mono ?_
  rintro e w' h
  obtain ⟨r, rfl, h2⟩ := hK e w' h
  exact h2
theorem o_rv (x0 : Nat) {v0 : Value} {P : Ending → World → Prop} (ho : o.op = .call { callee := .value (.func 11), args := #[.tmp x0], argTypes := #[24] }) (hx0 : a.tmps[x0]?.getD undef = v0) (hc : Calls Try.prog 11 #[v0] w P) (hK : ∀ e w', P e w' → ∃ r, e = .returned r ∧ K (a.put o.dst r) w') : Oper.wp Try.prog o a w K Q := by
  obtain ⟨dst, op, type, pos, after, guard⟩ := o
  have ho' : op = _ := ho
  subst ho'
  clear ho
  subst hx0
  have h1 := Try.func11
  go_simp
  refine hc.mono ?_
  rintro e w' h
  obtain ⟨r, rfl, h2⟩ := hK e w' h
  exact h2
theorem o_numbers (x0 : Nat) (x1 : Nat) {v0 v1 : Value} {P : Ending → World → Prop} (ho : o.op = .call { callee := .value (.func 12), args := #[.tmp x0, .tmp x1], argTypes := #[22, 22] }) (hx0 : a.tmps[x0]?.getD undef = v0) (hx1 : a.tmps[x1]?.getD undef = v1) (hc : Calls Try.prog 12 #[v0, v1] w P) (hK : ∀ e w', P e w' → ∃ r, e = .returned r ∧ K (a.put o.dst r) w') : Oper.wp Try.prog o a w K Q := by
  obtain ⟨dst, op, type, pos, after, guard⟩ := o
  have ho' : op = _ := ho
  subst ho'
  clear ho
  subst hx0 hx1
  have h1 := Try.func12
  go_simp
  refine hc.mono ?_
  rintro e w' h
  obtain ⟨r, rfl, h2⟩ := hK e w' h
  exact h2
theorem o_all (x0 : Nat) {v0 : Value} {P : Ending → World → Prop} (ho : o.op = .call { callee := .value (.func 13), args := #[.tmp x0], argTypes := #[24] }) (hx0 : a.tmps[x0]?.getD undef = v0) (hc : Calls Try.prog 13 #[v0] w P) (hK : ∀ e w', P e w' → ∃ r, e = .returned r ∧ K (a.put o.dst r) w') : Oper.wp Try.prog o a w K Q := by
  obtain ⟨dst, op, type, pos, after, guard⟩ := o
  have ho' : op = _ := ho
  subst ho'
  clear ho
  subst hx0
  have h1 := Try.func13
  go_simp
  refine hc.mono ?_
  rintro e w' h
  obtain ⟨r, rfl, h2⟩ := hK e w' h
  exact h2
theorem o_has (x0 : Nat) (x1 : Nat) {v0 v1 : Value} {P : Ending → World → Prop} (ho : o.op = .call { callee := .value (.func 14), args := #[.tmp x0, .tmp x1], argTypes := #[24, 3] }) (hx0 : a.tmps[x0]?.getD undef = v0) (hx1 : a.tmps[x1]?.getD undef = v1) (hc : Calls Try.prog 14 #[v0, v1] w P) (hK : ∀ e w', P e w' → ∃ r, e = .returned r ∧ K (a.put o.dst r) w') : Oper.wp Try.prog o a w K Q := by
  obtain ⟨dst, op, type, pos, after, guard⟩ := o
  have ho' : op = _ := ho
  subst ho'
  clear ho
  subst hx0 hx1
  have h1 := Try.func14
  go_simp
  refine hc.mono ?_
  rintro e w' h
  obtain ⟨r, rfl, h2⟩ := hK e w' h
  exact h2
theorem o_rhas (x0 : Nat) (x1 : Nat) {v0 v1 : Value} {P : Ending → World → Prop} (ho : o.op = .call { callee := .value (.func 15), args := #[.tmp x0, .tmp x1], argTypes := #[28, 3] }) (hx0 : a.tmps[x0]?.getD undef = v0) (hx1 : a.tmps[x1]?.getD undef = v1) (hc : Calls Try.prog 15 #[v0, v1] w P) (hK : ∀ e w', P e w' → ∃ r, e = .returned r ∧ K (a.put o.dst r) w') : Oper.wp Try.prog o a w K Q := by
  obtain ⟨dst, op, type, pos, after, guard⟩ := o
  have ho' : op = _ := ho
  subst ho'
  clear ho
  subst hx0 hx1
  have h1 := Try.func15
  go_simp
  refine hc.mono ?_
  rintro e w' h
  obtain ⟨r, rfl, h2⟩ := hK e w' h
  exact h2
end
end Go.Proofs.Ytmjaphcofimbeaa
