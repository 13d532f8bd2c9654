/-
  STEPS OF A REGION, IN A FRAME OF WHICH JUST WHAT IS READ IS KNOWN: constants built, a call of lit, slices of trees built, a tree loaded. Conditions: as they stand.
-/
import Derived.Test.YtlalknapmnadpaaNa
import Derived.Test.YtlalknapmnadpaaRi
namespace Go.Proofs.Ytlalknapmnadpaa
open Go.RowKit
set_option linter.unusedVariables false
section
variable {a : Act} {w : World} {K : Act → World → Prop} {Q : Exit → Act → World → Prop} {o : Oper}
/-- An operation that comes to a value, and leaves a world. -/
theorem wp_value {P : Program} {v : Value} {w' : World} (h : (execOp a.eval o).run P w = .ok (.value v) w') (hK : K (a.put o.dst v) w') : Oper.wp P o a w K Q := by
  unfold Oper.wp
  rw [h]
  exact hK
theorem no_lit (x : Nat) (n : Int) {t : TypeId} (ho : o.op = .call { callee := .value (.tmp x), args := #[.const (.int .i64 n)], argTypes := #[t] }) (hx : a.eval (.tmp x) = .func (.func 26) #[] #[])
    (hK : ∀ w', Below w.heap.size w w' → K (a.put o.dst (.agg #[.int .u8 1, .int .i64 n, .slice none 0 0])) w') : Oper.wp Try.prog o a w K Q := by
  obtain ⟨dst, op, type, pos, after, guard⟩ := o
  have ho' : op = _ := ho
  subst ho'
  have hx2 : a.tmps[x]?.getD undef = .func (.func 26) #[] #[] := by
    have := hx
    simpa [Act.eval, Array.getD_eq_getD_getElem?] using this
  have h1 := Try.func26
  clear hx ho
  go_simp
  refine (lit_any n w).mono ?_
  rintro r w' ⟨rfl, hb⟩
  exact hK w' hb
theorem no_load (x g : Nat) (ho : o.op = .load 39 (.tmp x)) (hx : a.eval (.tmp x) = .pointer (some ⟨g, 0, none⟩)) (hc : w.cell? ⟨g, 0, none⟩ = some (.func (.func 26) #[] #[])) (hK : K (a.put o.dst (.func (.func 26) #[] #[])) w) : Oper.wp Try.prog o a w K Q := by
  obtain ⟨dst, op, type, pos, after, guard⟩ := o
  have ho' : op = _ := ho
  subst ho'
  have hx2 : a.tmps[x]?.getD undef = .pointer (some ⟨g, 0, none⟩) := by
    have := hx
    simpa [Act.eval, Array.getD_eq_getD_getElem?] using this
  clear ho hx
  have hi := Try.isAgg39
  go_simp
  exact hK
theorem no_loadE (x g : Nat) {u v z : Value} (ho : o.op = .load 24 (.tmp x)) (hx : a.eval (.tmp x) = .pointer (some ⟨g, 0, none⟩)) (c0 : w.cell? ⟨g, 0, none⟩ = some u) (c1 : w.cell? ⟨g, 1, none⟩ = some v) (c2 : w.cell? ⟨g, 2, none⟩ = some z) (hK : K (a.put o.dst (.agg #[u, v, z])) w) : Oper.wp Try.prog o a w K Q := by
  obtain ⟨dst, op, type, pos, after, guard⟩ := o
  have ho' : op = _ := ho
  subst ho'
  have hx2 : a.tmps[x]?.getD undef = .pointer (some ⟨g, 0, none⟩) := by
    have := hx
    simpa [Act.eval, Array.getD_eq_getD_getElem?] using this
  clear ho hx
  have hi := Try.isAgg24
  have hs := Try.sizeOf24
  go_simp
  exact hK
theorem no_sl1 (x : Nat) {u v z : Value} (ho : o.op = .buildSlice 22 1 #[(0, .tmp x)]) (hx : a.eval (.tmp x) = .agg #[u, v, z]) (hK : K (a.put o.dst (.slice (some ⟨w.heap.size, 0, none⟩) 1 1)) (w.alloc (.cells #[u, v, z] 24))) : Oper.wp Try.prog o a w K Q := by
  obtain ⟨dst, op, type, pos, after, guard⟩ := o
  have ho' : op = _ := ho
  subst ho'
  have hx2 : a.tmps[x]?.getD undef = .agg #[u, v, z] := by
    have := hx
    simpa [Act.eval, Array.getD_eq_getD_getElem?] using this
  clear ho hx
  go_simp
  exact hK
theorem no_sl2 (x y : Nat) {u v z u2 v2 z2 : Value} (ho : o.op = .buildSlice 22 2 #[(0, .tmp x), (1, .tmp y)]) (hx : a.eval (.tmp x) = .agg #[u, v, z]) (hy : a.eval (.tmp y) = .agg #[u2, v2, z2]) (hK : K (a.put o.dst (.slice (some ⟨w.heap.size, 0, none⟩) 2 2)) (w.alloc (.cells #[u, v, z, u2, v2, z2] 24))) : Oper.wp Try.prog o a w K Q := by
  obtain ⟨dst, op, type, pos, after, guard⟩ := o
  have ho' : op = _ := ho
  subst ho'
  have hx2 : a.tmps[x]?.getD undef = .agg #[u, v, z] := by
    have := hx
    simpa [Act.eval, Array.getD_eq_getD_getElem?] using this
  have hy2 : a.tmps[y]?.getD undef = .agg #[u2, v2, z2] := by
    have := hy
    simpa [Act.eval, Array.getD_eq_getD_getElem?] using this
  clear ho hx hy
  go_simp
  exact hK
theorem no_op2 (x : Nat) (op : Int) {A : Option Addr} {l c : Nat} (ho : o.op = .build 24 #[(0, .const (.int .u8 op)), (2, .tmp x)]) (hx : a.eval (.tmp x) = .slice A l c) (hK : K (a.put o.dst (.agg #[.int .u8 op, .int .i64 0, .slice A l c])) w) : Oper.wp Try.prog o a w K Q := by
  obtain ⟨dst, op, type, pos, after, guard⟩ := o
  have ho' : op = _ := ho
  subst ho'
  have hx2 : a.tmps[x]?.getD undef = .slice A l c := by
    have := hx
    simpa [Act.eval, Array.getD_eq_getD_getElem?] using this
  clear ho hx
  go_simp
  exact hK
theorem no_op3 (x : Nat) (op n : Int) {A : Option Addr} {l c : Nat} (ho : o.op = .build 24 #[(0, .const (.int .u8 op)), (1, .const (.int .i64 n)), (2, .tmp x)]) (hx : a.eval (.tmp x) = .slice A l c) (hK : K (a.put o.dst (.agg #[.int .u8 op, .int .i64 n, .slice A l c])) w) : Oper.wp Try.prog o a w K Q := by
  obtain ⟨dst, op, type, pos, after, guard⟩ := o
  have ho' : op = _ := ho
  subst ho'
  have hx2 : a.tmps[x]?.getD undef = .slice A l c := by
    have := hx
    simpa [Act.eval, Array.getD_eq_getD_getElem?] using this
  clear ho hx
  go_simp
  exact hK
theorem no_c0  (ho : o.op = .build 24 #[]) (hK : K (a.put o.dst (.agg #[.int .u8 0, .int .i64 0, .slice none 0 0])) w) : Oper.wp Try.prog o a w K Q := by
  obtain ⟨dst, op, type, pos, after, guard⟩ := o
  have ho' : op = _ := ho
  subst ho'
  clear ho 
  go_simp
  exact hK
theorem no_c1 (op : Int) (ho : o.op = .build 24 #[(0, .const (.int .u8 op))]) (hK : K (a.put o.dst (.agg #[.int .u8 op, .int .i64 0, .slice none 0 0])) w) : Oper.wp Try.prog o a w K Q := by
  obtain ⟨dst, op, type, pos, after, guard⟩ := o
  have ho' : op = _ := ho
  subst ho'
  clear ho 
  go_simp
  exact hK
theorem no_c2 (op n : Int) (ho : o.op = .build 24 #[(0, .const (.int .u8 op)), (1, .const (.int .i64 n))]) (hK : K (a.put o.dst (.agg #[.int .u8 op, .int .i64 n, .slice none 0 0])) w) : Oper.wp Try.prog o a w K Q := by
  obtain ⟨dst, op, type, pos, after, guard⟩ := o
  have ho' : op = _ := ho
  subst ho'
  clear ho 
  go_simp
  exact hK
theorem no_move (n : Int) (ho : o.op = .move (.const (.int .i64 n))) (hK : K (a.put o.dst (.int .i64 n)) w) : Oper.wp Try.prog o a w K Q := by
  obtain ⟨dst, op, type, pos, after, guard⟩ := o
  have ho' : op = _ := ho
  subst ho'
  clear ho 
  go_simp
  exact hK
theorem no_len (x : Nat) {A : Option Addr} {l c : Nat} (ho : o.op = .call { callee := .builtin .len, args := #[.tmp x], argTypes := #[22] }) (hx : a.eval (.tmp x) = .slice A l c) (hK : K (a.put o.dst (.int .i64 l)) w) : Oper.wp Try.prog o a w K Q := by
  obtain ⟨dst, op, type, pos, after, guard⟩ := o
  have ho' : op = _ := ho
  subst ho'
  have hx2 : a.tmps[x]?.getD undef = .slice A l c := by
    have := hx
    simpa [Act.eval, Array.getD_eq_getD_getElem?] using this
  clear ho hx
  go_simp
  exact hK
theorem no_sl12 (x0 x1 x2 x3 x4 x5 x6 x7 x8 x9 x10 x11 : Nat) {u0 v0 z0 u1 v1 z1 u2 v2 z2 u3 v3 z3 u4 v4 z4 u5 v5 z5 u6 v6 z6 u7 v7 z7 u8 v8 z8 u9 v9 z9 u10 v10 z10 u11 v11 z11 : Value} (ho : o.op = .buildSlice 22 12 #[(0, .tmp x0), (1, .tmp x1), (2, .tmp x2), (3, .tmp x3), (4, .tmp x4), (5, .tmp x5), (6, .tmp x6), (7, .tmp x7), (8, .tmp x8), (9, .tmp x9), (10, .tmp x10), (11, .tmp x11)]) (hx0 : a.eval (.tmp x0) = .agg #[u0, v0, z0]) (hx1 : a.eval (.tmp x1) = .agg #[u1, v1, z1]) (hx2 : a.eval (.tmp x2) = .agg #[u2, v2, z2]) (hx3 : a.eval (.tmp x3) = .agg #[u3, v3, z3]) (hx4 : a.eval (.tmp x4) = .agg #[u4, v4, z4]) (hx5 : a.eval (.tmp x5) = .agg #[u5, v5, z5]) (hx6 : a.eval (.tmp x6) = .agg #[u6, v6, z6]) (hx7 : a.eval (.tmp x7) = .agg #[u7, v7, z7]) (hx8 : a.eval (.tmp x8) = .agg #[u8, v8, z8]) (hx9 : a.eval (.tmp x9) = .agg #[u9, v9, z9]) (hx10 : a.eval (.tmp x10) = .agg #[u10, v10, z10]) (hx11 : a.eval (.tmp x11) = .agg #[u11, v11, z11]) (hK : K (a.put o.dst (.slice (some ⟨w.heap.size, 0, none⟩) 12 12)) (w.alloc (.cells #[u0, v0, z0, u1, v1, z1, u2, v2, z2, u3, v3, z3, u4, v4, z4, u5, v5, z5, u6, v6, z6, u7, v7, z7, u8, v8, z8, u9, v9, z9, u10, v10, z10, u11, v11, z11] 24))) : Oper.wp Try.prog o a w K Q := by
  obtain ⟨dst, op, type, pos, after, guard⟩ := o
  have ho' : op = _ := ho
  subst ho'
  have hx02 : a.tmps[x0]?.getD undef = .agg #[u0, v0, z0] := by
    have := hx0
    simpa [Act.eval, Array.getD_eq_getD_getElem?] using this
  have hx12 : a.tmps[x1]?.getD undef = .agg #[u1, v1, z1] := by
    have := hx1
    simpa [Act.eval, Array.getD_eq_getD_getElem?] using this
  have hx22 : a.tmps[x2]?.getD undef = .agg #[u2, v2, z2] := by
    have := hx2
    simpa [Act.eval, Array.getD_eq_getD_getElem?] using this
  have hx32 : a.tmps[x3]?.getD undef = .agg #[u3, v3, z3] := by
    have := hx3
    simpa [Act.eval, Array.getD_eq_getD_getElem?] using this
  have hx42 : a.tmps[x4]?.getD undef = .agg #[u4, v4, z4] := by
    have := hx4
    simpa [Act.eval, Array.getD_eq_getD_getElem?] using this
  have hx52 : a.tmps[x5]?.getD undef = .agg #[u5, v5, z5] := by
    have := hx5
    simpa [Act.eval, Array.getD_eq_getD_getElem?] using this
  have hx62 : a.tmps[x6]?.getD undef = .agg #[u6, v6, z6] := by
    have := hx6
    simpa [Act.eval, Array.getD_eq_getD_getElem?] using this
  have hx72 : a.tmps[x7]?.getD undef = .agg #[u7, v7, z7] := by
    have := hx7
    simpa [Act.eval, Array.getD_eq_getD_getElem?] using this
  have hx82 : a.tmps[x8]?.getD undef = .agg #[u8, v8, z8] := by
    have := hx8
    simpa [Act.eval, Array.getD_eq_getD_getElem?] using this
  have hx92 : a.tmps[x9]?.getD undef = .agg #[u9, v9, z9] := by
    have := hx9
    simpa [Act.eval, Array.getD_eq_getD_getElem?] using this
  have hx102 : a.tmps[x10]?.getD undef = .agg #[u10, v10, z10] := by
    have := hx10
    simpa [Act.eval, Array.getD_eq_getD_getElem?] using this
  have hx112 : a.tmps[x11]?.getD undef = .agg #[u11, v11, z11] := by
    have := hx11
    simpa [Act.eval, Array.getD_eq_getD_getElem?] using this
  clear ho hx0 hx1 hx2 hx3 hx4 hx5 hx6 hx7 hx8 hx9 hx10 hx11
  go_simp
  exact hK
end
end Go.Proofs.Ytlalknapmnadpaa
