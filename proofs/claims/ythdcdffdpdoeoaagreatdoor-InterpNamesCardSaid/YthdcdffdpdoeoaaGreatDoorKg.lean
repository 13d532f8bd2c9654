/-
  WHAT THE DRAWN REGIONS OF InterpNames LEAVE (layer 9), operation by operation: what stands in a temporary (Kn9), and one law a kind of operation. Conditions: as they stand.
-/
import Derived.Test.YthdcdffdpdoeoaaGreatDoorRt
import Derived.Test.YthdcdffdpdoeoaaGreatDoorCa
import Derived.Test.YthdcdffdpdoeoaaGreatDoorZq
namespace Go.Proofs.YthdcdffdpdoeoaaGreatDoor
set_option maxRecDepth 100000
open Go.RowKit Go.Deep
set_option linter.unusedVariables false
set_option maxHeartbeats 4000000
inductive Kn9
  | lf (o : Nat) (n : Int)
  | ex (D : Nat) (e : Ex)
  | st (D : Nat) (s : St)
  | sl (D : Nat) (l : List St)
  | orf
  | off
  | en (k : Nat) (a x : Int) (W : List Pr) (l0 l1 l2 l3 l4 l5 l6 l7 : Int) (n : Nat)
  | bx (B : Nat)
def endZ : Array Value := #[.int .u8 0, .int .i64 0, .int .i64 0, .slice none 0 0, .int .i64 0, .int .i64 0, .int .i64 0, .int .i64 0, .int .i64 0, .int .i64 0, .int .i64 0, .int .i64 0, .int .i64 0, .slice none 0 0, .bool false]
def Kn9.at : Kn9 → Value → World → Prop
  | .lf o n, v, _ => v = .agg #[.int .u8 o, .int .i64 n, .slice none 0 0]
  | .ex D e, v, w => ∃ o n A l c, v = .agg #[.int .u8 o, .int .i64 n, .slice A l c] ∧ At w 0 w.heap.size D v e
  | .st D s, v, w => ∃ r : Raw, v = r.v ∧ SA w D r s
  | .sl D l, v, w => ∃ A c, v = .slice A l.length c ∧ SK w D A l
  | .orf, v, _ => v = .func (.func 13) #[] #[]
  | .off, v, w => ∃ g, v = .func (.func 39) #[] #[.pointer (some ⟨g, 0, none⟩)] ∧ w.cell? ⟨g, 0, none⟩ = some (.slice none 0 0) ∧ g < w.heap.size
  | .en k a x W l0 l1 l2 l3 l4 l5 l6 l7 n, v, w => ∃ hi B d VA vn vc, hi ≤ w.heap.size ∧ v = .agg #[.int .u8 k, .int .i64 a, .int .i64 x, .slice B W.length d, .int .i64 l0, .int .i64 l1, .int .i64 l2, .int .i64 l3, .int .i64 l4, .int .i64 l5, .int .i64 l6, .int .i64 l7, .int .i64 n, .slice VA vn vc, .bool true] ∧ PairsAt w hi B W
  | .bx B, v, w => ∃ g, v = .pointer (some ⟨g, 0, none⟩) ∧ B ≤ g ∧ w.heap[g]? = some (.cells endZ 48 (0, 0))
theorem Kn9.mono (k : Kn9) {v : Value} {w w' : World} (b : Below w.heap.size w w') (h : k.at v w) : k.at v w' := by
  cases k with
  | lf o n => exact h
  | ex D e =>
    obtain ⟨o, n, A, l, c, e1, h⟩ := h
    exact ⟨o, n, A, l, c, e1, (At.below h b (Nat.le_refl _)).wide (Nat.le_refl _) b.size D⟩
  | st D s =>
    obtain ⟨r, e, h⟩ := h
    exact ⟨r, e, h.below b⟩
  | sl D l =>
    obtain ⟨A, c, e, h⟩ := h
    exact ⟨A, c, e, h.below b⟩
  | orf => exact h
  | off =>
    obtain ⟨g, e, h1, h2⟩ := h
    exact ⟨g, e, (b.cell h2).trans h1, Nat.lt_of_lt_of_le h2 b.size⟩
  | en k a x W l0 l1 l2 l3 l4 l5 l6 l7 n =>
    obtain ⟨hi, B, d, VA, vn, vc, h1, h2, h3⟩ := h
    exact ⟨hi, B, d, VA, vn, vc, Nat.le_trans h1 b.size, h2, h3.below b h1⟩
  | bx B =>
    obtain ⟨g, e, h1, h2⟩ := h
    exact ⟨g, e, h1, (b.block g (Array.getElem?_eq_some_iff.1 h2).1).trans h2⟩
section
variable {a : Act} {w : World} {K : Act → World → Prop} {Q : Exit → Act → World → Prop} {o : Oper}
theorem k9_lit (n : Int) (t : TypeId) (ho : o.op = Op.call { callee := .value (.func 16), args := #[.const (.int .i64 n)], argTypes := #[t] }) (hK : ∀ v w', Below w.heap.size w w' → ((Kn9.lf 1 n).at v w') → K (a.put o.dst v) w') : Oper.wp Tryz.prog o a w K Q := by
  obtain ⟨dst, op, type, pos, after, guard⟩ := o
  have ho' : op = _ := ho
  subst ho'
  clear ho
  go_simp
  refine (jlit_any n w).mono ?_
  rintro z w' ⟨rfl, hb⟩
  exact hK _ w' hb rfl
theorem k9_loc (n : Int) (t : TypeId) (ho : o.op = Op.call { callee := .value (.func 20), args := #[.const (.int .i64 n)], argTypes := #[t] }) (hK : ∀ v w', Below w.heap.size w w' → ((Kn9.lf 2 n).at v w') → K (a.put o.dst v) w') : Oper.wp Tryz.prog o a w K Q := by
  obtain ⟨dst, op, type, pos, after, guard⟩ := o
  have ho' : op = _ := ho
  subst ho'
  clear ho
  go_simp
  refine (jlocal_any n w).mono ?_
  rintro z w' ⟨rfl, hb⟩
  exact hK _ w' hb rfl
theorem k9_plus (x y : Nat) (D p q : Nat) (n m : Int) (h1 : (p < 256 ∧ -9223372036854775808 ≤ n ∧ n < 9223372036854775808)) (h2 : (q < 256 ∧ -9223372036854775808 ≤ m ∧ m < 9223372036854775808)) (t t' : TypeId) (ho : o.op = Op.call { callee := .value (.func 21), args := #[.tmp x, .tmp y], argTypes := #[t, t'] }) (hx : a.tmps[x]?.getD undef = .agg #[.int .u8 p, .int .i64 n, .slice none 0 0]) (hy : a.tmps[y]?.getD undef = .agg #[.int .u8 q, .int .i64 m, .slice none 0 0]) (hK : ∀ v w', Below w.heap.size w w' → ((Kn9.ex (D + 2) (.node 4 0 [.node p n [], .node q m []])).at v w') → K (a.put o.dst v) w') : Oper.wp Tryz.prog o a w K Q := by
  obtain ⟨dst, op, type, pos, after, guard⟩ := o
  have ho' : op = _ := ho
  subst ho'
  clear ho
  go_simp
  refine (jplus_any p n none 0 0 q m none 0 0 w).mono ?_
  rintro z w' ⟨g, rfl, hg0, hg, hb⟩
  exact hK _ w' hb ⟨_, _, _, _, _, rfl, at_plus hg D h1.1 h1.2.1 h1.2.2 h2.1 h2.2.1 h2.2.2⟩
theorem k9_write (x D p : Nat) (u n : Int) (h1 : (p < 256 ∧ -9223372036854775808 ≤ n ∧ n < 9223372036854775808)) (h2 : -9223372036854775808 ≤ u ∧ u < 9223372036854775808) (t t' : TypeId) (ho : o.op = Op.call { callee := .value (.func 15), args := #[.const (.int .i64 u), .tmp x], argTypes := #[t, t'] }) (hx : a.tmps[x]?.getD undef = .agg #[.int .u8 p, .int .i64 n, .slice none 0 0]) (hK : ∀ v w', Below w.heap.size w w' → ((Kn9.st (D + 2) (jWrite u (.node p n []))).at v w') → K (a.put o.dst v) w') : Oper.wp Tryz.prog o a w K Q := by
  obtain ⟨dst, op, type, pos, after, guard⟩ := o
  have ho' : op = _ := ho
  subst ho'
  clear ho
  go_simp
  refine (jwrite_any u p n none 0 0 w).mono ?_
  rintro z w' ⟨rfl, hb⟩
  exact hK _ w' hb ⟨⟨3, 0, 1, u, none, 0, 0, p, n, none, 0, 0, none, 0, 0, none, 0, 0⟩, rfl, sa_lf w' D 3 0 1 u p n ⟨⟨by decide, by decide, by decide⟩, ⟨by decide, h2.1, h2.2⟩, h1⟩⟩
theorem k9_back (x D p : Nat) (n : Int) (h1 : (p < 256 ∧ -9223372036854775808 ≤ n ∧ n < 9223372036854775808)) (t : TypeId) (ho : o.op = Op.call { callee := .value (.func 19), args := #[.tmp x], argTypes := #[t] }) (hx : a.tmps[x]?.getD undef = .agg #[.int .u8 p, .int .i64 n, .slice none 0 0]) (hK : ∀ v w', Below w.heap.size w w' → ((Kn9.st (D + 2) (jBack (.node p n []))).at v w') → K (a.put o.dst v) w') : Oper.wp Tryz.prog o a w K Q := by
  obtain ⟨dst, op, type, pos, after, guard⟩ := o
  have ho' : op = _ := ho
  subst ho'
  clear ho
  go_simp
  refine (jback_any p n none 0 0 w).mono ?_
  rintro z w' ⟨rfl, hb⟩
  exact hK _ w' hb ⟨⟨8, 0, p, n, none, 0, 0, 0, 0, none, 0, 0, none, 0, 0, none, 0, 0⟩, rfl, sa_lf w' D 8 0 p n 0 0 ⟨⟨by decide, by decide, by decide⟩, h1, by decide, by decide, by decide⟩⟩
theorem k9_or (f x z D : Nat) {A B : Option Addr} {m c m' c' : Nat} (y e : List St) (hl : m = y.length) (hl' : m' = e.length) (h1 : y.length ≤ 1000) (h2 : e.length ≤ 1000) (hA : SK w (D + 2) A y) (hB : SK w (D + 2) B e) (t t' : TypeId) (ho : o.op = Op.call { callee := .value (.tmp f), args := #[.tmp x, .tmp z], argTypes := #[t, t'] }) (hf : a.tmps[f]?.getD undef = .func (.func 13) #[] #[]) (hx : a.tmps[x]?.getD undef = .slice A m c) (hz : a.tmps[z]?.getD undef = .slice B m' c') (hK : ∀ v w', Below w.heap.size w w' → ((Kn9.st (D + 3) (jOr y e)).at v w') → K (a.put o.dst v) w') : Oper.wp Tryz.prog o a w K Q := by
  obtain ⟨dst, op, type, pos, after, guard⟩ := o
  have ho' : op = _ := ho
  subst ho'
  clear ho
  subst hl
  subst hl'
  go_simp
  refine (jor_any A _ c B _ c' w).mono ?_
  rintro z w' ⟨rfl, hb⟩
  exact hK _ w' hb ⟨⟨7, 0, 0, 0, none, 0, 0, 0, 0, none, 0, 0, A, _, c, B, _, c'⟩, rfl, sa_mk (at_lf _ (D + 1) 0 0 (by decide)) (at_lf _ (D + 1) 0 0 (by decide)) (hA.below hb) (hB.below hb) ⟨by decide, by decide, by decide, by omega, by omega⟩ ⟨rfl, rfl⟩⟩
theorem k9_orn (f x D : Nat) {A : Option Addr} {m c : Nat} (y : List St) (hl : m = y.length) (h1 : y.length ≤ 1000) (hA : SK w (D + 2) A y) (t t' : TypeId) (ho : o.op = Op.call { callee := .value (.tmp f), args := #[.tmp x, .const (.slice none 0 0)], argTypes := #[t, t'] }) (hf : a.tmps[f]?.getD undef = .func (.func 13) #[] #[]) (hx : a.tmps[x]?.getD undef = .slice A m c) (hK : ∀ v w', Below w.heap.size w w' → ((Kn9.st (D + 3) (jOr y [])).at v w') → K (a.put o.dst v) w') : Oper.wp Tryz.prog o a w K Q := by
  obtain ⟨dst, op, type, pos, after, guard⟩ := o
  have ho' : op = _ := ho
  subst ho'
  clear ho
  subst hl
  go_simp
  refine (jor_any A _ c none 0 0 w).mono ?_
  rintro z w' ⟨rfl, hb⟩
  exact hK _ w' hb ⟨⟨7, 0, 0, 0, none, 0, 0, 0, 0, none, 0, 0, A, _, c, none, 0, 0⟩, rfl, sa_mk (at_lf _ (D + 1) 0 0 (by decide)) (at_lf _ (D + 1) 0 0 (by decide)) (hA.below hb) (SK.nil _ _ _) ⟨by decide, by decide, by decide, by omega, by decide⟩ ⟨rfl, rfl⟩⟩
theorem k9_of (t : TypeId) (ho : o.op = Op.call { callee := .value (.func 17), args := #[.const (.slice none 0 0)], argTypes := #[t] }) (hK : ∀ v w', Below w.heap.size w w' → (Kn9.off.at v w') → K (a.put o.dst v) w') : Oper.wp Tryz.prog o a w K Q := by
  obtain ⟨dst, op, type, pos, after, guard⟩ := o
  have ho' : op = _ := ho
  subst ho'
  clear ho
  go_simp
  refine (jof_any none 0 0 w).mono ?_
  rintro z w' ⟨rfl, rfl⟩
  exact hK _ _ ((Below.refl _ _).alloc (Nat.le_refl _) _) ⟨_, rfl, cell_of_row _ _ 0 _ _ (0, 0) (World.alloc_heap_new w _), by simp⟩
theorem k9_run (x f D : Nat) {A : Option Addr} {m c : Nat} (tx : List St) (hm : m = tx.length) (hk : SK w D A tx) (hD : D ≤ 1000) (hl : tx.length ≤ 1000) (hkd : Kd w) (hmay : mayF D tx 0 = true) {k : Nat} {b u : Int} {W : List Pr} {l0 l1 l2 l3 l4 l5 l6 l7 : Int} {n : Nat} (hres : runI 4 [] (valL []) 2001 (startI tx) = some ⟨k, b, u, W, [l0, l1, l2, l3, l4, l5, l6, l7], n⟩) (hn9 : n ≤ 900) (ts : Array TypeId) {fv : Value} (hfv : Kn9.off.at fv w) (ho : o.op = Op.call { callee := .value (.func 14), args := #[.tmp x, .const (.int .i64 4), .const (.slice none 0 0), .tmp f], argTypes := ts }) (hx : a.tmps[x]?.getD undef = .slice A m c) (hf : a.tmps[f]?.getD undef = fv) (hK : ∀ v w', Below w.heap.size w w' → ((Kn9.en k b u W l0 l1 l2 l3 l4 l5 l6 l7 n).at v w') → K (a.put o.dst v) w') : Oper.wp Tryz.prog o a w K Q := by
  obtain ⟨dst, op, type, pos, after, guard⟩ := o
  have ho' : op = _ := ho
  subst ho'
  clear ho
  subst hm
  obtain ⟨g, rfl, hc, hg⟩ := hfv
  go_simp
  refine (run9_at (X := none) (cx := 0) (l := []) (got := []) (g := g) (vars := 4) hk c hkd hD hl (by decide) (by decide) (ints_nil _) (by decide) (fun e he => by cases he) hmay hc hg (ints_nil _) (fun e he => by cases he) hres hn9).mono ?_
  rintro z w' ⟨B, d, VA, vn, vc, rfl, hp, hb⟩
  exact hK _ w' hb ⟨_, B, d, VA, vn, vc, Nat.le_refl _, rfl, hp⟩
theorem k9_move (x : Nat) (ho : o.op = Op.move (.tmp x)) (hx : a.tmps[x]?.getD undef = .func (.func 13) #[] #[]) (hK : ∀ v w', Below w.heap.size w w' → (Kn9.orf.at v w') → K (a.put o.dst v) w') : Oper.wp Tryz.prog o a w K Q := by
  obtain ⟨dst, op, type, pos, after, guard⟩ := o
  have ho' : op = _ := ho
  subst ho'
  clear ho
  go_simp
  exact hK _ w (Below.refl _ _) rfl
theorem k9_load (x g D : Nat) {r : Raw} (s : St) (ht : Ten w ⟨g, 0, none⟩ r) (hs : SA w D r s) (ho : o.op = Op.load 43 (.tmp x)) (hx : a.tmps[x]?.getD undef = .pointer (some ⟨g, 0, none⟩)) (hK : ∀ v w', Below w.heap.size w w' → ((Kn9.st D s).at v w') → K (a.put o.dst v) w') : Oper.wp Tryz.prog o a w K Q := by
  obtain ⟨dst, op, type, pos, after, guard⟩ := o
  have ho' : op = _ := ho
  subst ho'
  clear ho
  have c0 := ht.c0
  have c1 := ht.c1
  have c2 := ht.c2
  have c3 := ht.c3
  have c4 := ht.c4
  have c5 := ht.c5
  have c6 := ht.c6
  have c7 := ht.c7
  have c8 := ht.c8
  have c9 := ht.c9
  dsimp only at c0 c1 c2 c3 c4 c5 c6 c7 c8 c9
  rw [Nat.zero_add] at c1 c2 c3 c4 c5 c6 c7 c8 c9
  have hi := Tryz.isAgg43
  go_simp
  exact hK _ w (Below.refl _ _) ⟨r, rfl, hs⟩
theorem k9_set (x D : Nat) (tt : Int) (h1 : -9223372036854775808 ≤ tt ∧ tt < 9223372036854775808) {xo : Nat} {xn : Int} {xA : Option Addr} {xl xc : Nat} (e : Ex) (hat : At w 0 w.heap.size (D + 2) (.agg #[.int .u8 xo, .int .i64 xn, .slice xA xl xc]) e) (ho : o.op = Op.build 43 #[(0, .const (.int .u8 1)), (1, .const (.int .i64 tt)), (2, .tmp x)]) (hx : a.tmps[x]?.getD undef = .agg #[.int .u8 xo, .int .i64 xn, .slice xA xl xc]) (hK : ∀ v w', Below w.heap.size w w' → ((Kn9.st (D + 3) (jSet tt e)).at v w') → K (a.put o.dst v) w') : Oper.wp Tryz.prog o a w K Q := by
  obtain ⟨dst, op, type, pos, after, guard⟩ := o
  have ho' : op = _ := ho
  subst ho'
  clear ho
  go_simp
  exact hK _ w (Below.refl _ _) ⟨⟨1, tt, xo, xn, xA, xl, xc, 0, 0, none, 0, 0, none, 0, 0, none, 0, 0⟩, rfl, sa_mk hat (at_lf _ (D + 1) 0 0 (by decide)) (SK.nil _ _ _) (SK.nil _ _ _) ⟨by decide, h1.1, h1.2, by decide, by decide⟩ ⟨rfl, rfl⟩⟩
theorem k9_ka (x D k : Nat) (h1 : k < 256) {xo : Nat} {xn : Int} {xA : Option Addr} {xl xc : Nat} (e : Ex) (hat : At w 0 w.heap.size (D + 2) (.agg #[.int .u8 xo, .int .i64 xn, .slice xA xl xc]) e) (ho : o.op = Op.build 43 #[(0, .const (.int .u8 k)), (2, .tmp x)]) (hx : a.tmps[x]?.getD undef = .agg #[.int .u8 xo, .int .i64 xn, .slice xA xl xc]) (hK : ∀ v w', Below w.heap.size w w' → ((Kn9.st (D + 3) (.node k 0 e xNo [] [])).at v w') → K (a.put o.dst v) w') : Oper.wp Tryz.prog o a w K Q := by
  obtain ⟨dst, op, type, pos, after, guard⟩ := o
  have ho' : op = _ := ho
  subst ho'
  clear ho
  go_simp
  exact hK _ w (Below.refl _ _) ⟨⟨k, 0, xo, xn, xA, xl, xc, 0, 0, none, 0, 0, none, 0, 0, none, 0, 0⟩, rfl, sa_mk hat (at_lf _ (D + 1) 0 0 (by decide)) (SK.nil _ _ _) (SK.nil _ _ _) ⟨h1, by decide, by decide, by decide, by decide⟩ ⟨rfl, rfl⟩⟩
theorem k9_kay (x z D k : Nat) (h1 : k < 256) {xo : Nat} {xn : Int} {xA : Option Addr} {xl xc : Nat} (e : Ex) (hat : At w 0 w.heap.size (D + 2) (.agg #[.int .u8 xo, .int .i64 xn, .slice xA xl xc]) e) {A : Option Addr} {m c : Nat} (y : List St) (hl : m = y.length) (h2 : y.length ≤ 1000) (hA : SK w (D + 2) A y) (ho : o.op = Op.build 43 #[(0, .const (.int .u8 k)), (2, .tmp x), (4, .tmp z)]) (hx : a.tmps[x]?.getD undef = .agg #[.int .u8 xo, .int .i64 xn, .slice xA xl xc]) (hz : a.tmps[z]?.getD undef = .slice A m c) (hK : ∀ v w', Below w.heap.size w w' → ((Kn9.st (D + 3) (.node k 0 e xNo y [])).at v w') → K (a.put o.dst v) w') : Oper.wp Tryz.prog o a w K Q := by
  obtain ⟨dst, op, type, pos, after, guard⟩ := o
  have ho' : op = _ := ho
  subst ho'
  clear ho
  subst hl
  go_simp
  exact hK _ w (Below.refl _ _) ⟨⟨k, 0, xo, xn, xA, xl, xc, 0, 0, none, 0, 0, A, _, c, none, 0, 0⟩, rfl, sa_mk hat (at_lf _ (D + 1) 0 0 (by decide)) hA (SK.nil _ _ _) ⟨h1, by decide, by decide, by omega, by decide⟩ ⟨rfl, rfl⟩⟩
theorem k9_kaye (x z q D k : Nat) (h1 : k < 256) {xo : Nat} {xn : Int} {xA : Option Addr} {xl xc : Nat} (e : Ex) (hat : At w 0 w.heap.size (D + 2) (.agg #[.int .u8 xo, .int .i64 xn, .slice xA xl xc]) e) {A B : Option Addr} {m c m' c' : Nat} (y f : List St) (hl : m = y.length) (hl' : m' = f.length) (h2 : y.length ≤ 1000) (h3 : f.length ≤ 1000) (hA : SK w (D + 2) A y) (hB : SK w (D + 2) B f) (ho : o.op = Op.build 43 #[(0, .const (.int .u8 k)), (2, .tmp x), (4, .tmp z), (5, .tmp q)]) (hx : a.tmps[x]?.getD undef = .agg #[.int .u8 xo, .int .i64 xn, .slice xA xl xc]) (hz : a.tmps[z]?.getD undef = .slice A m c) (hq : a.tmps[q]?.getD undef = .slice B m' c') (hK : ∀ v w', Below w.heap.size w w' → ((Kn9.st (D + 3) (.node k 0 e xNo y f)).at v w') → K (a.put o.dst v) w') : Oper.wp Tryz.prog o a w K Q := by
  obtain ⟨dst, op, type, pos, after, guard⟩ := o
  have ho' : op = _ := ho
  subst ho'
  clear ho
  subst hl
  subst hl'
  go_simp
  exact hK _ w (Below.refl _ _) ⟨⟨k, 0, xo, xn, xA, xl, xc, 0, 0, none, 0, 0, A, _, c, B, _, c'⟩, rfl, sa_mk hat (at_lf _ (D + 1) 0 0 (by decide)) hA hB ⟨h1, by decide, by decide, by omega, by omega⟩ ⟨rfl, rfl⟩⟩
theorem k9_alloc (B : Nat) (hB : B ≤ w.heap.size) (ho : o.op = .alloc 48) (hK : ∀ v w', Below w.heap.size w w' → ((Kn9.bx B).at v w') → K (a.put o.dst v) w') : Oper.wp Tryz.prog o a w K Q := by
  obtain ⟨dst, op, type, pos, after, guard⟩ := o
  have ho' : op = _ := ho
  subst ho'
  clear ho
  go_simp
  exact hK _ _ ((Below.refl _ _).alloc (Nat.le_refl _) _) ⟨w.heap.size, rfl, hB, World.alloc_heap_new w _⟩
theorem skof9 {w : World} {D : Nat} {rs : List Raw} {l : List St} (h : All2 (SA w D) rs l) (cur : Array Value) (hcur : ∀ (j i : Nat) (r : Raw), rs[j]? = some r → i < 10 → cur[j * 10 + i]? = r.cells[i]?) : SK (w.alloc (.cells cur 43)) D (some ⟨w.heap.size, 0, none⟩) l := by
  have key : ∀ (rs : List Raw) (l : List St), All2 (SA w D) rs l → rs.length = l.length ∧ ∀ (j : Nat) (r : Raw) (s : St), rs[j]? = some r → l[j]? = some s → SA w D r s := by
    intro rs
    induction rs with
    | nil => intro l h; cases l with
      | nil => exact ⟨rfl, fun j r s hj => by simp at hj⟩
      | cons s l => exact h.elim
    | cons q rs ih => intro l h; cases l with
      | nil => exact h.elim
      | cons s l =>
        obtain ⟨h1, h2⟩ := h
        obtain ⟨i1, i2⟩ := ih l h2
        refine ⟨by simp [i1], fun j r s' hj hl => ?_⟩
        cases j with
        | zero =>
          simp only [List.getElem?_cons_zero, Option.some.injEq] at hj hl
          subst hj
          subst hl
          exact h1
        | succ j => exact i2 j r s' (by simpa using hj) (by simpa using hl)
  exact SK.of rs l (key rs l h).1 (key rs l h).2 cur hcur
theorem k9_s1 (x0 D : Nat) {r0 : Raw} (s0 : St) (ho : o.op = Op.buildSlice 41 1 #[(0, .tmp x0)]) (hx0 : a.tmps[x0]?.getD undef = r0.v) (hs0 : SA w D r0 s0) (hK : ∀ v w', Below w.heap.size w w' → ((Kn9.sl D [s0]).at v w') → K (a.put o.dst v) w') : Oper.wp Tryz.prog o a w K Q := by
  have u0 : a.eval (.tmp x0) = r0.v := by simpa [Act.eval, Array.getD_eq_getD_getElem?] using hx0
  exact so_slice [r0] #[(0, .tmp x0)] ho (by simp) (by simp) (by simp [u0]) (fun cur hcur => hK _ _ ((Below.refl _ _).alloc (Nat.le_refl _) _) (by exact ⟨_, _, rfl, skof9 (rs := [r0]) (l := [s0]) ⟨hs0, trivial⟩ cur hcur⟩))
theorem k9_s2 (x0 x1 D : Nat) {r0 r1 : Raw} (s0 s1 : St) (ho : o.op = Op.buildSlice 41 2 #[(0, .tmp x0), (1, .tmp x1)]) (hx0 : a.tmps[x0]?.getD undef = r0.v) (hs0 : SA w D r0 s0) (hx1 : a.tmps[x1]?.getD undef = r1.v) (hs1 : SA w D r1 s1) (hK : ∀ v w', Below w.heap.size w w' → ((Kn9.sl D [s0, s1]).at v w') → K (a.put o.dst v) w') : Oper.wp Tryz.prog o a w K Q := by
  have u0 : a.eval (.tmp x0) = r0.v := by simpa [Act.eval, Array.getD_eq_getD_getElem?] using hx0
  have u1 : a.eval (.tmp x1) = r1.v := by simpa [Act.eval, Array.getD_eq_getD_getElem?] using hx1
  exact so_slice [r0, r1] #[(0, .tmp x0), (1, .tmp x1)] ho (by simp) (by simp) (by simp [u0, u1]) (fun cur hcur => hK _ _ ((Below.refl _ _).alloc (Nat.le_refl _) _) (by exact ⟨_, _, rfl, skof9 (rs := [r0, r1]) (l := [s0, s1]) ⟨hs0, hs1, trivial⟩ cur hcur⟩))
theorem k9_s3 (x0 x1 x2 D : Nat) {r0 r1 r2 : Raw} (s0 s1 s2 : St) (ho : o.op = Op.buildSlice 41 3 #[(0, .tmp x0), (1, .tmp x1), (2, .tmp x2)]) (hx0 : a.tmps[x0]?.getD undef = r0.v) (hs0 : SA w D r0 s0) (hx1 : a.tmps[x1]?.getD undef = r1.v) (hs1 : SA w D r1 s1) (hx2 : a.tmps[x2]?.getD undef = r2.v) (hs2 : SA w D r2 s2) (hK : ∀ v w', Below w.heap.size w w' → ((Kn9.sl D [s0, s1, s2]).at v w') → K (a.put o.dst v) w') : Oper.wp Tryz.prog o a w K Q := by
  have u0 : a.eval (.tmp x0) = r0.v := by simpa [Act.eval, Array.getD_eq_getD_getElem?] using hx0
  have u1 : a.eval (.tmp x1) = r1.v := by simpa [Act.eval, Array.getD_eq_getD_getElem?] using hx1
  have u2 : a.eval (.tmp x2) = r2.v := by simpa [Act.eval, Array.getD_eq_getD_getElem?] using hx2
  exact so_slice [r0, r1, r2] #[(0, .tmp x0), (1, .tmp x1), (2, .tmp x2)] ho (by simp) (by simp) (by simp [u0, u1, u2]) (fun cur hcur => hK _ _ ((Below.refl _ _).alloc (Nat.le_refl _) _) (by exact ⟨_, _, rfl, skof9 (rs := [r0, r1, r2]) (l := [s0, s1, s2]) ⟨hs0, hs1, hs2, trivial⟩ cur hcur⟩))
end
end Go.Proofs.YthdcdffdpdoeoaaGreatDoor
