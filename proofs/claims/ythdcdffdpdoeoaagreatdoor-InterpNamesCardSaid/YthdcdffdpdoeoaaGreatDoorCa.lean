/-
  STEPS OF A REGION, IN A FRAME OF WHICH JUST WHAT IS READ IS KNOWN (layer 5): statements built, calls of lit, read, write, slices of statements built, a tree loaded. Conditions: as they stand.
-/
import Derived.Test.YthdcdffdpdoeoaaGreatDoorCx
import Derived.Test.YthdcdffdpdoeoaaGreatDoorZv
import Derived.Test.YthdcdffdpdoeoaaGreatDoorZc
import Derived.Test.YthdcdffdpdoeoaaGreatDoorCz
import Derived.Great.BuildSlice
namespace Go.Proofs.YthdcdffdpdoeoaaGreatDoor
set_option maxRecDepth 100000
open Go.RowKit
set_option linter.unusedVariables false
section
variable {a : Act} {w : World} {K : Act → World → Prop} {Q : Exit → Act → World → Prop} {o : Oper}
theorem sob_  (ho : o.op = Op.build 43 #[])  (hK : K (a.put o.dst (Raw.v ⟨0, 0, 0, 0, none, 0, 0, 0, 0, none, 0, 0, none, 0, 0, none, 0, 0⟩)) (w)) : Oper.wp Tryz.prog o a w K Q := by
  obtain ⟨dst, op, type, pos, after, guard⟩ := o
  have ho' : op = _ := ho
  subst ho'
  clear ho
  go_simp
  exact hK
theorem sob_k (k : Nat) (ho : o.op = Op.build 43 #[(0, .const (.int .u8 k))])  (hK : K (a.put o.dst (Raw.v ⟨k, 0, 0, 0, none, 0, 0, 0, 0, none, 0, 0, none, 0, 0, none, 0, 0⟩)) (w)) : Oper.wp Tryz.prog o a w K Q := by
  obtain ⟨dst, op, type, pos, after, guard⟩ := o
  have ho' : op = _ := ho
  subst ho'
  clear ho
  go_simp
  exact hK
theorem sob_kat (k : Nat) (xa : Nat) {ao : Nat} {an : Int} {aA : Option Addr} {al ac : Nat} (t : Int) (ho : o.op = Op.build 43 #[(0, .const (.int .u8 k)), (2, .tmp xa), (1, .const (.int .i64 t))]) (hxa : a.eval (.tmp xa) = .agg #[.int .u8 ao, .int .i64 an, .slice aA al ac]) (hK : K (a.put o.dst (Raw.v ⟨k, t, ao, an, aA, al, ac, 0, 0, none, 0, 0, none, 0, 0, none, 0, 0⟩)) (w)) : Oper.wp Tryz.prog o a w K Q := by
  obtain ⟨dst, op, type, pos, after, guard⟩ := o
  have ho' : op = _ := ho
  subst ho'
  have gxa : a.tmps[xa]?.getD undef = .agg #[.int .u8 ao, .int .i64 an, .slice aA al ac] := by
    have := hxa
    simpa [Act.eval, Array.getD_eq_getD_getElem?] using this
  clear ho hxa
  go_simp
  exact hK
theorem sob_kab (k : Nat) (xa : Nat) {ao : Nat} {an : Int} {aA : Option Addr} {al ac : Nat} (xb : Nat) {bo : Nat} {bn : Int} {bA : Option Addr} {bl bc : Nat} (ho : o.op = Op.build 43 #[(0, .const (.int .u8 k)), (2, .tmp xa), (3, .tmp xb)]) (hxa : a.eval (.tmp xa) = .agg #[.int .u8 ao, .int .i64 an, .slice aA al ac]) (hxb : a.eval (.tmp xb) = .agg #[.int .u8 bo, .int .i64 bn, .slice bA bl bc]) (hK : K (a.put o.dst (Raw.v ⟨k, 0, ao, an, aA, al, ac, bo, bn, bA, bl, bc, none, 0, 0, none, 0, 0⟩)) (w)) : Oper.wp Tryz.prog o a w K Q := by
  obtain ⟨dst, op, type, pos, after, guard⟩ := o
  have ho' : op = _ := ho
  subst ho'
  have gxa : a.tmps[xa]?.getD undef = .agg #[.int .u8 ao, .int .i64 an, .slice aA al ac] := by
    have := hxa
    simpa [Act.eval, Array.getD_eq_getD_getElem?] using this
  have gxb : a.tmps[xb]?.getD undef = .agg #[.int .u8 bo, .int .i64 bn, .slice bA bl bc] := by
    have := hxb
    simpa [Act.eval, Array.getD_eq_getD_getElem?] using this
  clear ho hxa hxb
  go_simp
  exact hK
theorem sob_kay (k : Nat) (xa : Nat) {ao : Nat} {an : Int} {aA : Option Addr} {al ac : Nat} (xy : Nat) {yA : Option Addr} {yl yc : Nat} (ho : o.op = Op.build 43 #[(0, .const (.int .u8 k)), (2, .tmp xa), (4, .tmp xy)]) (hxa : a.eval (.tmp xa) = .agg #[.int .u8 ao, .int .i64 an, .slice aA al ac]) (hxy : a.eval (.tmp xy) = .slice yA yl yc) (hK : K (a.put o.dst (Raw.v ⟨k, 0, ao, an, aA, al, ac, 0, 0, none, 0, 0, yA, yl, yc, none, 0, 0⟩)) (w)) : Oper.wp Tryz.prog o a w K Q := by
  obtain ⟨dst, op, type, pos, after, guard⟩ := o
  have ho' : op = _ := ho
  subst ho'
  have gxa : a.tmps[xa]?.getD undef = .agg #[.int .u8 ao, .int .i64 an, .slice aA al ac] := by
    have := hxa
    simpa [Act.eval, Array.getD_eq_getD_getElem?] using this
  have gxy : a.tmps[xy]?.getD undef = .slice yA yl yc := by
    have := hxy
    simpa [Act.eval, Array.getD_eq_getD_getElem?] using this
  clear ho hxa hxy
  go_simp
  exact hK
theorem sob_ka (k : Nat) (xa : Nat) {ao : Nat} {an : Int} {aA : Option Addr} {al ac : Nat} (ho : o.op = Op.build 43 #[(0, .const (.int .u8 k)), (2, .tmp xa)]) (hxa : a.eval (.tmp xa) = .agg #[.int .u8 ao, .int .i64 an, .slice aA al ac]) (hK : K (a.put o.dst (Raw.v ⟨k, 0, ao, an, aA, al, ac, 0, 0, none, 0, 0, none, 0, 0, none, 0, 0⟩)) (w)) : Oper.wp Tryz.prog o a w K Q := by
  obtain ⟨dst, op, type, pos, after, guard⟩ := o
  have ho' : op = _ := ho
  subst ho'
  have gxa : a.tmps[xa]?.getD undef = .agg #[.int .u8 ao, .int .i64 an, .slice aA al ac] := by
    have := hxa
    simpa [Act.eval, Array.getD_eq_getD_getElem?] using this
  clear ho hxa
  go_simp
  exact hK
theorem sob_kabt (k : Nat) (xa : Nat) {ao : Nat} {an : Int} {aA : Option Addr} {al ac : Nat} (xb : Nat) {bo : Nat} {bn : Int} {bA : Option Addr} {bl bc : Nat} (t : Int) (ho : o.op = Op.build 43 #[(0, .const (.int .u8 k)), (2, .tmp xa), (3, .tmp xb), (1, .const (.int .i64 t))]) (hxa : a.eval (.tmp xa) = .agg #[.int .u8 ao, .int .i64 an, .slice aA al ac]) (hxb : a.eval (.tmp xb) = .agg #[.int .u8 bo, .int .i64 bn, .slice bA bl bc]) (hK : K (a.put o.dst (Raw.v ⟨k, t, ao, an, aA, al, ac, bo, bn, bA, bl, bc, none, 0, 0, none, 0, 0⟩)) (w)) : Oper.wp Tryz.prog o a w K Q := by
  obtain ⟨dst, op, type, pos, after, guard⟩ := o
  have ho' : op = _ := ho
  subst ho'
  have gxa : a.tmps[xa]?.getD undef = .agg #[.int .u8 ao, .int .i64 an, .slice aA al ac] := by
    have := hxa
    simpa [Act.eval, Array.getD_eq_getD_getElem?] using this
  have gxb : a.tmps[xb]?.getD undef = .agg #[.int .u8 bo, .int .i64 bn, .slice bA bl bc] := by
    have := hxb
    simpa [Act.eval, Array.getD_eq_getD_getElem?] using this
  clear ho hxa hxb
  go_simp
  exact hK
theorem sob_ky (k : Nat) (xy : Nat) {yA : Option Addr} {yl yc : Nat} (ho : o.op = Op.build 43 #[(0, .const (.int .u8 k)), (4, .tmp xy)]) (hxy : a.eval (.tmp xy) = .slice yA yl yc) (hK : K (a.put o.dst (Raw.v ⟨k, 0, 0, 0, none, 0, 0, 0, 0, none, 0, 0, yA, yl, yc, none, 0, 0⟩)) (w)) : Oper.wp Tryz.prog o a w K Q := by
  obtain ⟨dst, op, type, pos, after, guard⟩ := o
  have ho' : op = _ := ho
  subst ho'
  have gxy : a.tmps[xy]?.getD undef = .slice yA yl yc := by
    have := hxy
    simpa [Act.eval, Array.getD_eq_getD_getElem?] using this
  clear ho hxy
  go_simp
  exact hK
theorem sob_kae (k : Nat) (xa : Nat) {ao : Nat} {an : Int} {aA : Option Addr} {al ac : Nat} (xe : Nat) {eA : Option Addr} {el ec : Nat} (ho : o.op = Op.build 43 #[(0, .const (.int .u8 k)), (2, .tmp xa), (5, .tmp xe)]) (hxa : a.eval (.tmp xa) = .agg #[.int .u8 ao, .int .i64 an, .slice aA al ac]) (hxe : a.eval (.tmp xe) = .slice eA el ec) (hK : K (a.put o.dst (Raw.v ⟨k, 0, ao, an, aA, al, ac, 0, 0, none, 0, 0, none, 0, 0, eA, el, ec⟩)) (w)) : Oper.wp Tryz.prog o a w K Q := by
  obtain ⟨dst, op, type, pos, after, guard⟩ := o
  have ho' : op = _ := ho
  subst ho'
  have gxa : a.tmps[xa]?.getD undef = .agg #[.int .u8 ao, .int .i64 an, .slice aA al ac] := by
    have := hxa
    simpa [Act.eval, Array.getD_eq_getD_getElem?] using this
  have gxe : a.tmps[xe]?.getD undef = .slice eA el ec := by
    have := hxe
    simpa [Act.eval, Array.getD_eq_getD_getElem?] using this
  clear ho hxa hxe
  go_simp
  exact hK
theorem sob_kb (k : Nat) (xb : Nat) {bo : Nat} {bn : Int} {bA : Option Addr} {bl bc : Nat} (ho : o.op = Op.build 43 #[(0, .const (.int .u8 k)), (3, .tmp xb)]) (hxb : a.eval (.tmp xb) = .agg #[.int .u8 bo, .int .i64 bn, .slice bA bl bc]) (hK : K (a.put o.dst (Raw.v ⟨k, 0, 0, 0, none, 0, 0, bo, bn, bA, bl, bc, none, 0, 0, none, 0, 0⟩)) (w)) : Oper.wp Tryz.prog o a w K Q := by
  obtain ⟨dst, op, type, pos, after, guard⟩ := o
  have ho' : op = _ := ho
  subst ho'
  have gxb : a.tmps[xb]?.getD undef = .agg #[.int .u8 bo, .int .i64 bn, .slice bA bl bc] := by
    have := hxb
    simpa [Act.eval, Array.getD_eq_getD_getElem?] using this
  clear ho hxb
  go_simp
  exact hK
theorem sob_ke (k : Nat) (xe : Nat) {eA : Option Addr} {el ec : Nat} (ho : o.op = Op.build 43 #[(0, .const (.int .u8 k)), (5, .tmp xe)]) (hxe : a.eval (.tmp xe) = .slice eA el ec) (hK : K (a.put o.dst (Raw.v ⟨k, 0, 0, 0, none, 0, 0, 0, 0, none, 0, 0, none, 0, 0, eA, el, ec⟩)) (w)) : Oper.wp Tryz.prog o a w K Q := by
  obtain ⟨dst, op, type, pos, after, guard⟩ := o
  have ho' : op = _ := ho
  subst ho'
  have gxe : a.tmps[xe]?.getD undef = .slice eA el ec := by
    have := hxe
    simpa [Act.eval, Array.getD_eq_getD_getElem?] using this
  clear ho hxe
  go_simp
  exact hK
theorem sob_kye (k : Nat) (xy : Nat) {yA : Option Addr} {yl yc : Nat} (xe : Nat) {eA : Option Addr} {el ec : Nat} (ho : o.op = Op.build 43 #[(0, .const (.int .u8 k)), (4, .tmp xy), (5, .tmp xe)]) (hxy : a.eval (.tmp xy) = .slice yA yl yc) (hxe : a.eval (.tmp xe) = .slice eA el ec) (hK : K (a.put o.dst (Raw.v ⟨k, 0, 0, 0, none, 0, 0, 0, 0, none, 0, 0, yA, yl, yc, eA, el, ec⟩)) (w)) : Oper.wp Tryz.prog o a w K Q := by
  obtain ⟨dst, op, type, pos, after, guard⟩ := o
  have ho' : op = _ := ho
  subst ho'
  have gxy : a.tmps[xy]?.getD undef = .slice yA yl yc := by
    have := hxy
    simpa [Act.eval, Array.getD_eq_getD_getElem?] using this
  have gxe : a.tmps[xe]?.getD undef = .slice eA el ec := by
    have := hxe
    simpa [Act.eval, Array.getD_eq_getD_getElem?] using this
  clear ho hxy hxe
  go_simp
  exact hK
theorem so_e1 (n : Int) (ho : o.op = Op.build 40 #[(1, .const (.int .i64 n))])  (hK : K (a.put o.dst (.agg #[.int .u8 0, .int .i64 n, .slice none 0 0])) (w)) : Oper.wp Tryz.prog o a w K Q := by
  obtain ⟨dst, op, type, pos, after, guard⟩ := o
  have ho' : op = _ := ho
  subst ho'
  clear ho
  go_simp
  exact hK
theorem so_move (x : Nat) {A : Option Addr} {l c : Nat} (ho : o.op = Op.move (.tmp x)) (hx : a.eval (.tmp x) = .slice A l c) (hK : K (a.put o.dst (.slice A l c)) (w)) : Oper.wp Tryz.prog o a w K Q := by
  obtain ⟨dst, op, type, pos, after, guard⟩ := o
  have ho' : op = _ := ho
  subst ho'
  have gx : a.tmps[x]?.getD undef = .slice A l c := by
    have := hx
    simpa [Act.eval, Array.getD_eq_getD_getElem?] using this
  clear ho hx
  go_simp
  exact hK
theorem so_num (n : Int) (ho : o.op = Op.move (.const (.int .i64 n)))  (hK : K (a.put o.dst (.int .i64 n)) (w)) : Oper.wp Tryz.prog o a w K Q := by
  obtain ⟨dst, op, type, pos, after, guard⟩ := o
  have ho' : op = _ := ho
  subst ho'
  clear ho
  go_simp
  exact hK
theorem so_len (x : Nat) {A : Option Addr} {l c : Nat} (ho : o.op = Op.call { callee := .builtin .len, args := #[.tmp x], argTypes := #[41] }) (hx : a.eval (.tmp x) = .slice A l c) (hK : K (a.put o.dst (.int .i64 l)) (w)) : Oper.wp Tryz.prog o a w K Q := by
  obtain ⟨dst, op, type, pos, after, guard⟩ := o
  have ho' : op = _ := ho
  subst ho'
  have gx : a.tmps[x]?.getD undef = .slice A l c := by
    have := hx
    simpa [Act.eval, Array.getD_eq_getD_getElem?] using this
  clear ho hx
  go_simp
  exact hK
theorem so_loadE (x g : Nat) {u v z : Value} (ho : o.op = Op.load 40 (.tmp x)) (hx : a.eval (.tmp x) = .pointer (some ⟨g, 0, none⟩)) (c0 : w.cell? ⟨g, 0, none⟩ = some u) (c1 : w.cell? ⟨g, 1, none⟩ = some v) (c2 : w.cell? ⟨g, 2, none⟩ = some z) (hK : K (a.put o.dst (.agg #[u, v, z])) (w)) : Oper.wp Tryz.prog o a w K Q := by
  obtain ⟨dst, op, type, pos, after, guard⟩ := o
  have ho' : op = _ := ho
  subst ho'
  have gx : a.tmps[x]?.getD undef = .pointer (some ⟨g, 0, none⟩) := by
    have := hx
    simpa [Act.eval, Array.getD_eq_getD_getElem?] using this
  clear ho hx
  have hi := Tryz.isAgg40
  have hs := Tryz.sizeOf40
  go_simp
  exact hK
theorem so_s1 (x0 : Nat) {r0 : Raw} (ho : o.op = Op.buildSlice 41 1 #[(0, .tmp x0)]) (hx0 : a.eval (.tmp x0) = r0.v) (hK : K (a.put o.dst (.slice (some ⟨w.heap.size, 0, none⟩) 1 1)) (w.alloc (.cells #[.int .u8 r0.k, .int .i64 r0.t, .int .u8 r0.ao, .int .i64 r0.an, .slice r0.aA r0.al r0.ac, .int .u8 r0.bo, .int .i64 r0.bn, .slice r0.bA r0.bl r0.bc, .slice r0.yA r0.yl r0.yc, .slice r0.eA r0.el r0.ec] 43))) : Oper.wp Tryz.prog o a w K Q := by
  obtain ⟨dst, op, type, pos, after, guard⟩ := o
  have ho' : op = _ := ho
  subst ho'
  have gx0 : a.tmps[x0]?.getD undef = .agg #[.int .u8 r0.k, .int .i64 r0.t, .int .u8 r0.ao, .int .i64 r0.an, .slice r0.aA r0.al r0.ac, .int .u8 r0.bo, .int .i64 r0.bn, .slice r0.bA r0.bl r0.bc, .slice r0.yA r0.yl r0.yc, .slice r0.eA r0.el r0.ec] := by
    have := hx0
    simpa [Act.eval, Array.getD_eq_getD_getElem?, Raw.v] using this
  clear ho hx0
  go_simp
  exact hK
theorem so_slice (rs : List Raw) (parts : Array (Nat × Operand)) (ho : o.op = Op.buildSlice 41 rs.length parts) (h0 : 0 < rs.length) (h1 : rs.length ≤ 1000) (hp : (parts.map fun (i, x) => (i, a.eval x)).toList = ((rs.map Raw.v).zipIdx 0).map fun x => (x.2, x.1))
    (hK : ∀ cur : Array Value, (∀ (j i : Nat) (r : Raw), rs[j]? = some r → i < 10 → cur[j * 10 + i]? = r.cells[i]?) → K (a.put o.dst (.slice (some ⟨w.heap.size, 0, none⟩) rs.length rs.length)) (w.alloc (.cells cur 43))) : Oper.wp Tryz.prog o a w K Q := by
  obtain ⟨ie, hie, hz1, hz2, hzz⟩ : ∃ ie, Tryz.prog.info? 43 = some ie ∧ ie.size = 10 ∧ ie.zero = some (Raw.v ⟨0, 0, 0, 0, none, 0, 0, 0, 0, none, 0, 0, none, 0, 0, none, 0, 0⟩) ∧ True := ⟨_, rfl, rfl, rfl, trivial⟩
  obtain ⟨r, hr, hs, hk⟩ := Great.fill_dense (s := 10) (by decide) (rs.map Raw.v) 0 ((Array.range (rs.length * 10)).map ((Raw.v ⟨0, 0, 0, 0, none, 0, 0, 0, 0, none, 0, 0, none, 0, 0, none, 0, 0⟩).cells[· % (Raw.v ⟨0, 0, 0, 0, none, 0, 0, 0, 0, none, 0, 0, none, 0, 0, none, 0, 0⟩).cells.size]!)) (fun v hv => by obtain ⟨r, _, rfl⟩ := List.mem_map.1 hv; rfl) (by simp)
  refine wp_buildSlice 41 43 rs.length parts ho r ie _ Tryz.underlying41 hie hz2 (by rw [hz1]; omega) (by rw [hz1]; omega) ?_ (hK r fun j i q hq hi => ?_)
  · rw [hp, hz1]
    exact hr
  · have hj : j < rs.length := (List.getElem?_eq_some_iff.1 hq).1
    rw [hk, if_pos ⟨by omega, by simp only [List.length_map]; omega⟩, show (j * 10 + i) / 10 - 0 = j by omega, show (j * 10 + i) % 10 = i by omega, List.getElem?_map, hq]
    exact List.getElem?_toArray
/-- A slice of statements that are built. -/
theorem SK.of {w : World} {D : Nat} (rs : List Raw) (l : List St) (hl : rs.length = l.length) (hs : ∀ (j : Nat) (r : Raw) (s : St), rs[j]? = some r → l[j]? = some s → SA w D r s) (cur : Array Value) (hcur : ∀ (j i : Nat) (r : Raw), rs[j]? = some r → i < 10 → cur[j * 10 + i]? = r.cells[i]?) : SK (w.alloc (.cells cur 43)) D (some ⟨w.heap.size, 0, none⟩) l := by
  intro j hj
  have hr := heap_alloc_new w (.cells cur 43)
  have hj' : j < rs.length := by omega
  refine ⟨⟨w.heap.size, 0, none⟩, rs[j], rfl, Nat.zero_le _, by simp, ?_, (hs j _ _ (List.getElem?_eq_getElem hj') (List.getElem?_eq_getElem hj)).below ((Below.refl _ _).alloc (Nat.le_refl _) _)⟩
  rw [row_add]
  exact ten_row hr fun i hi => hcur j i _ (List.getElem?_eq_getElem hj') hi
end
end Go.Proofs.YthdcdffdpdoeoaaGreatDoor
