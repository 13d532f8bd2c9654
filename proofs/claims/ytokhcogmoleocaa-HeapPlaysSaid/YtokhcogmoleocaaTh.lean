/-
  THE DRAWN REGION OF seesawlaw11.like (46 operations; Values lays a list), in whatever order. Laid by gen/gen_th.py. Conditions: as they stand.
-/
import Derived.Test.YtokhcogmoleocaaTf
import Derived.Test.YtokhcogmoleocaaRu
namespace Go.Proofs.Ytokhcogmoleocaa
set_option maxRecDepth 100000
open Go.RowKit Go.Deep
set_option linter.unusedVariables false
section
variable {a : Act} {w : World} {K : Act → World → Prop} {Q : Exit → Act → World → Prop} {o : Oper}
theorem l_field0 (x g : Nat) (ho : o.op = Op.fieldAddr 70 (.tmp x) 0) (hx : a.tmps[x]?.getD undef = .pointer (some ⟨g, 0, none⟩)) (hK : K (a.put o.dst (.pointer (some ⟨g, 0, none⟩))) w) : Oper.wp Try.prog o a w K Q := by
  obtain ⟨dst, op, type, pos, after, guard⟩ := o
  have ho' : op = _ := ho
  subst ho'
  clear ho
  go_simp
  exact hK
theorem l_field1 (x g : Nat) (ho : o.op = Op.fieldAddr 70 (.tmp x) 1) (hx : a.tmps[x]?.getD undef = .pointer (some ⟨g, 0, none⟩)) (hK : K (a.put o.dst (.pointer (some ⟨g, 1, none⟩))) w) : Oper.wp Try.prog o a w K Q := by
  obtain ⟨dst, op, type, pos, after, guard⟩ := o
  have ho' : op = _ := ho
  subst ho'
  clear ho
  go_simp
  exact hK
theorem l_field3 (x g : Nat) (ho : o.op = Op.fieldAddr 70 (.tmp x) 3) (hx : a.tmps[x]?.getD undef = .pointer (some ⟨g, 0, none⟩)) (hK : K (a.put o.dst (.pointer (some ⟨g, 3, none⟩))) w) : Oper.wp Try.prog o a w K Q := by
  obtain ⟨dst, op, type, pos, after, guard⟩ := o
  have ho' : op = _ := ho
  subst ho'
  clear ho
  go_simp
  exact hK
theorem l_field4 (x g : Nat) (ho : o.op = Op.fieldAddr 70 (.tmp x) 4) (hx : a.tmps[x]?.getD undef = .pointer (some ⟨g, 0, none⟩)) (hK : K (a.put o.dst (.pointer (some ⟨g, 4, none⟩))) w) : Oper.wp Try.prog o a w K Q := by
  obtain ⟨dst, op, type, pos, after, guard⟩ := o
  have ho' : op = _ := ho
  subst ho'
  clear ho
  go_simp
  exact hK
theorem l_int (x : Nat) (q : Addr) {n : Int} (ho : o.op = Op.load 3 (.tmp x)) (hx : a.tmps[x]?.getD undef = .pointer (some q)) (hv : w.cell? q = some (.int .i64 n)) (hK : K (a.put o.dst (.int .i64 n)) w) : Oper.wp Try.prog o a w K Q := by
  obtain ⟨dst, op, type, pos, after, guard⟩ := o
  have ho' : op = _ := ho
  subst ho'
  clear ho
  go_simp
  exact hK
theorem l_sl64 (x : Nat) (q : Addr) {A : Option Addr} {n c : Nat} (ho : o.op = Op.load 33 (.tmp x)) (hx : a.tmps[x]?.getD undef = .pointer (some q)) (hv : w.cell? q = some (.slice A n c)) (hK : K (a.put o.dst (.slice A n c)) w) : Oper.wp Try.prog o a w K Q := by
  obtain ⟨dst, op, type, pos, after, guard⟩ := o
  have ho' : op = _ := ho
  subst ho'
  clear ho
  go_simp
  exact hK
theorem l_sl (x : Nat) (q : Addr) {A : Option Addr} {n c : Nat} (ho : o.op = Op.load 35 (.tmp x)) (hx : a.tmps[x]?.getD undef = .pointer (some q)) (hv : w.cell? q = some (.slice A n c)) (hK : K (a.put o.dst (.slice A n c)) w) : Oper.wp Try.prog o a w K Q := by
  obtain ⟨dst, op, type, pos, after, guard⟩ := o
  have ho' : op = _ := ho
  subst ho'
  clear ho
  go_simp
  exact hK
theorem l_len64 (x : Nat) {A : Option Addr} {n c : Nat} (hn : n ≤ 100000) (ho : o.op = .call { callee := .builtin .len, args := #[.tmp x], argTypes := #[33] }) (hx : a.tmps[x]?.getD undef = .slice A n c) (hK : K (a.put o.dst (.int .i64 n)) w) : Oper.wp Try.prog o a w K Q := by
  obtain ⟨dst, op, type, pos, after, guard⟩ := o
  have ho' : op = _ := ho
  subst ho'
  clear ho
  go_simp
  exact hK
theorem l_len (x : Nat) {A : Option Addr} {n c : Nat} (hn : n ≤ 100000) (ho : o.op = .call { callee := .builtin .len, args := #[.tmp x], argTypes := #[35] }) (hx : a.tmps[x]?.getD undef = .slice A n c) (hK : K (a.put o.dst (.int .i64 n)) w) : Oper.wp Try.prog o a w K Q := by
  obtain ⟨dst, op, type, pos, after, guard⟩ := o
  have ho' : op = _ := ho
  subst ho'
  clear ho
  go_simp
  exact hK
theorem l_neqI (x y : Nat) {n : Int} (ho : o.op = Op.binOp .neq 3 (.tmp x) (.tmp y) 3) (hx : a.tmps[x]?.getD undef = .int .i64 n) (hy : a.tmps[y]?.getD undef = .int .i64 n) (hK : K (a.put o.dst (.bool false)) w) : Oper.wp Try.prog o a w K Q := by
  obtain ⟨dst, op, type, pos, after, guard⟩ := o
  have ho' : op = _ := ho
  subst ho'
  clear ho
  have i1 : (n != n) = false := bne_eq_false_iff_eq.2 rfl
  go_simp
  exact hK
theorem l_pick (x y : Nat) (ho : o.op = Op.pick (.tmp x) (.const (.bool true)) (.tmp y)) (hx : a.tmps[x]?.getD undef = .bool false) (hy : a.tmps[y]?.getD undef = .bool false) (hK : K (a.put o.dst (.bool false)) w) : Oper.wp Try.prog o a w K Q := by
  obtain ⟨dst, op, type, pos, after, guard⟩ := o
  have ho' : op = _ := ho
  subst ho'
  clear ho
  go_simp
  exact hK
theorem l_not (x : Nat) (ho : o.op = Op.unOp .not 4 (.tmp x)) (hx : a.tmps[x]?.getD undef = .bool true) (hK : K (a.put o.dst (.bool false)) w) : Oper.wp Try.prog o a w K Q := by
  obtain ⟨dst, op, type, pos, after, guard⟩ := o
  have ho' : op = _ := ho
  subst ho'
  clear ho
  go_simp
  exact hK
theorem l_vars (x0 : Nat) {v0 : Value} {P : Ending → World → Prop} (ho : o.op = .call { callee := .value (.func 15), args := #[.tmp x0], argTypes := #[22] }) (hx0 : a.tmps[x0]?.getD undef = v0) (hc : Calls Try.prog 15 #[v0] w P) (hK : ∀ e w', P e w' → ∃ r, e = .returned r ∧ K (a.put o.dst r) w') : Oper.wp Try.prog o a w K Q := by
  obtain ⟨dst, op, type, pos, after, guard⟩ := o
  have ho' : op = _ := ho
  subst ho'
  clear ho
  subst hx0
  have h1 := Try.func15
  go_simp
  refine hc.mono ?_
  rintro e w' h
  obtain ⟨r, rfl, h2⟩ := hK e w' h
  exact h2
theorem l_stripes (x0 : Nat) {v0 : Value} {P : Ending → World → Prop} (ho : o.op = .call { callee := .value (.func 16), args := #[.tmp x0], argTypes := #[22] }) (hx0 : a.tmps[x0]?.getD undef = v0) (hc : Calls Try.prog 16 #[v0] w P) (hK : ∀ e w', P e w' → ∃ r, e = .returned r ∧ K (a.put o.dst r) w') : Oper.wp Try.prog o a w K Q := by
  obtain ⟨dst, op, type, pos, after, guard⟩ := o
  have ho' : op = _ := ho
  subst ho'
  clear ho
  subst hx0
  have h1 := Try.func16
  go_simp
  refine hc.mono ?_
  rintro e w' h
  obtain ⟨r, rfl, h2⟩ := hK e w' h
  exact h2
theorem l_clock (x0 : Nat) {v0 : Value} {P : Ending → World → Prop} (ho : o.op = .call { callee := .value (.func 17), args := #[.tmp x0], argTypes := #[22] }) (hx0 : a.tmps[x0]?.getD undef = v0) (hc : Calls Try.prog 17 #[v0] w P) (hK : ∀ e w', P e w' → ∃ r, e = .returned r ∧ K (a.put o.dst r) w') : Oper.wp Try.prog o a w K Q := by
  obtain ⟨dst, op, type, pos, after, guard⟩ := o
  have ho' : op = _ := ho
  subst ho'
  clear ho
  subst hx0
  have h1 := Try.func17
  go_simp
  refine hc.mono ?_
  rintro e w' h
  obtain ⟨r, rfl, h2⟩ := hK e w' h
  exact h2
theorem l_limit (x0 : Nat) {v0 : Value} {P : Ending → World → Prop} (ho : o.op = .call { callee := .value (.func 18), args := #[.tmp x0], argTypes := #[22] }) (hx0 : a.tmps[x0]?.getD undef = v0) (hc : Calls Try.prog 18 #[v0] w P) (hK : ∀ e w', P e w' → ∃ r, e = .returned r ∧ K (a.put o.dst r) w') : Oper.wp Try.prog o a w K Q := by
  obtain ⟨dst, op, type, pos, after, guard⟩ := o
  have ho' : op = _ := ho
  subst ho'
  clear ho
  subst hx0
  have h1 := Try.func18
  go_simp
  refine hc.mono ?_
  rintro e w' h
  obtain ⟨r, rfl, h2⟩ := hK e w' h
  exact h2
theorem l_values (x0 : Nat) {v0 : Value} {P : Ending → World → Prop} (ho : o.op = .call { callee := .value (.func 23), args := #[.tmp x0], argTypes := #[22] }) (hx0 : a.tmps[x0]?.getD undef = v0) (hc : Calls Try.prog 23 #[v0] w P) (hK : ∀ e w', P e w' → ∃ r, e = .returned r ∧ K (a.put o.dst r) w') : Oper.wp Try.prog o a w K Q := by
  obtain ⟨dst, op, type, pos, after, guard⟩ := o
  have ho' : op = _ := ho
  subst ho'
  clear ho
  subst hx0
  have h1 := Try.func23
  go_simp
  refine hc.mono ?_
  rintro e w' h
  obtain ⟨r, rfl, h2⟩ := hK e w' h
  exact h2
theorem l_rvalues (x0 : Nat) (x1 : Nat) {v0 v1 : Value} {P : Ending → World → Prop} (ho : o.op = .call { callee := .value (.func 34), args := #[.tmp x0, .tmp x1], argTypes := #[33, 33] }) (hx0 : a.tmps[x0]?.getD undef = v0) (hx1 : a.tmps[x1]?.getD undef = v1) (hc : Calls Try.prog 34 #[v0, v1] w P) (hK : ∀ e w', P e w' → ∃ r, e = .returned r ∧ K (a.put o.dst r) w') : Oper.wp Try.prog o a w K Q := by
  obtain ⟨dst, op, type, pos, after, guard⟩ := o
  have ho' : op = _ := ho
  subst ho'
  clear ho
  subst hx0 hx1
  have h1 := Try.func34
  go_simp
  refine hc.mono ?_
  rintro e w' h
  obtain ⟨r, rfl, h2⟩ := hK e w' h
  exact h2
end
/-- What the region speaks of. -/
structure PL where
  w0 : World
  g : Nat
  q : Nat
  lo : Nat
  c : Nat → Int
  n : Nat
  m : Nat
  X : Option Addr
  Y : Option Addr
  Z : Option Addr
  cx : Nat
  cy : Nat
  cz : Nat
structure PLok (D : PL) : Prop where
  h : HeapAt D.w0 D.g D.c
  o : Opn D.w0 D.q D.lo D.c D.n D.m D.X D.Y D.Z D.cx D.cy D.cz
  b : HB D.c
inductive Kn11 where
  | val (v : Value)
  | lst
def Kn11.at (D : PL) : Kn11 → Value → World → Prop
  | .val v, u, _ => u = v
  | .lst, u, w => ∃ B k, u = .slice B (valuesL D.c).length k ∧ Ints w w.heap.size B (valuesL D.c)
theorem Kn11.more {D : PL} {K : Kn11} {u : Value} {w w' : World} (h : K.at D u w) (b : Below w.heap.size w w') : K.at D u w' := by
  cases K with
  | val v => exact h
  | lst =>
    obtain ⟨B, k, e, hI⟩ := h
    exact ⟨B, k, e, ints_up11 (hI.below b (Nat.le_refl _)) b.size⟩
/-- What stands in each temporary. -/
def KL (D : PL) : Nat → Kn11
  | 0 => .val (.pointer (some ⟨D.g, 0, none⟩))
  | 1 => .val (.int .i64 D.m)
  | 2 => .val (.pointer (some ⟨D.q, 0, none⟩))
  | 3 => .val (.pointer (some ⟨D.q, 0, none⟩))
  | 4 => .val (.pointer (some ⟨D.q, 0, none⟩))
  | 5 => .val (.slice D.X D.m D.cx)
  | 6 => .val (.int .i64 D.m)
  | 7 => .val (.bool false)
  | 8 => .val (.bool false)
  | 9 => .val (.pointer (some ⟨D.g, 0, none⟩))
  | 10 => .val (.int .i64 D.n)
  | 11 => .val (.pointer (some ⟨D.q, 0, none⟩))
  | 12 => .val (.pointer (some ⟨D.q, 0, none⟩))
  | 13 => .val (.pointer (some ⟨D.q, 1, none⟩))
  | 14 => .val (.slice D.Y D.n D.cy)
  | 15 => .val (.int .i64 D.n)
  | 16 => .val (.bool false)
  | 17 => .val (.bool false)
  | 18 => .val (.bool false)
  | 19 => .val (.pointer (some ⟨D.g, 0, none⟩))
  | 20 => .val (.int .i64 (D.c 65))
  | 21 => .val (.pointer (some ⟨D.q, 0, none⟩))
  | 22 => .val (.pointer (some ⟨D.q, 0, none⟩))
  | 23 => .val (.pointer (some ⟨D.q, 3, none⟩))
  | 24 => .val (.int .i64 (D.c 65))
  | 25 => .val (.bool false)
  | 26 => .val (.bool false)
  | 27 => .val (.bool false)
  | 28 => .val (.pointer (some ⟨D.g, 0, none⟩))
  | 29 => .val (.int .i64 (D.c 66))
  | 30 => .val (.pointer (some ⟨D.q, 0, none⟩))
  | 31 => .val (.pointer (some ⟨D.q, 0, none⟩))
  | 32 => .val (.pointer (some ⟨D.q, 4, none⟩))
  | 33 => .val (.int .i64 (D.c 66))
  | 34 => .val (.bool false)
  | 35 => .val (.bool false)
  | 36 => .val (.bool false)
  | 37 => .val (.pointer (some ⟨D.g, 0, none⟩))
  | 38 => .lst
  | 39 => .val (.pointer (some ⟨D.q, 0, none⟩))
  | 40 => .val (.pointer (some ⟨D.q, 0, none⟩))
  | 41 => .val (.pointer (some ⟨D.q, 0, none⟩))
  | 42 => .val (.slice D.X D.m D.cx)
  | 43 => .val (.bool true)
  | 44 => .val (.bool false)
  | 45 => .val (.bool false)
  | _ => .val undef
structure JL (D : PL) (don : Nat → Bool) (u : Nat → Value) (w : World) : Prop where
  b : Below D.w0.heap.size D.w0 w
  kv : ∀ j, don j = true → (KL D j).at D (u j) w
section
variable {D : PL} {don : Nat → Bool} {u : Nat → Value} {w : World}
theorem JL.h (h : JL D don u w) (ok : PLok D) : HeapAt w D.g D.c := ok.h.below h.b ok.h.lt
theorem JL.cell (h : JL D don u w) (ok : PLok D) (i : Nat) : w.cell? ⟨D.q, i, none⟩ = (#[.slice D.X D.m D.cx, .slice D.Y D.n D.cy, .slice D.Z D.n D.cz, .int .i64 (D.c 65), .int .i64 (D.c 66)] : Array Value)[i]? := (h.b.cell (p := ⟨D.q, i, none⟩) ok.o.ref.lt).trans (ok.o.cell i)
theorem JL.quiet (h : JL D don u w) (i : Nat) {v : Value} {w' : World} (b : Below w.heap.size w w') (hv : (KL D i).at D v w') : JL D (fun j => j == i || don j) (fun j => if j = i then v else u j) w' :=
  ⟨h.b.trans (b.mono h.b.size), fun j hd => by
    have hd : (j == i || don j) = true := hd
    show (KL D j).at D (if j = i then v else u j) w'
    by_cases hji : j = i
    · subst hji
      rw [if_pos rfl]
      exact hv
    · rw [if_neg hji]
      rw [beq_eq_false_iff_ne.2 hji, Bool.false_or] at hd
      exact Kn11.more (h.kv j hd) b⟩
end
noncomputable def opsL (n : Nat) : Array Oper := opsIn Try.f32 n
def guardsL (ops : Array Oper) : Bool := (List.range ops.size).all fun i => match ops[i]? with
  | some o => (match o.guard with | none => true | some (j, want) => want == false && (j == 8 || j == 18 || j == 27 || j == 36))
  | none => true
theorem guardL {i : Nat} {o : Oper} {j : Nat} {want : Bool} (ho : (opsL 1)[i]? = some o) (hg : o.guard = some (j, want)) : want = false ∧ (j = 8 ∨ j = 18 ∨ j = 27 ∨ j = 36) := by
  have h : guardsL (opsL 1) = true := by kernel_rfl
  have hi : i < (opsL 1).size := (Array.getElem?_eq_some_iff.1 ho).1
  have h1 := List.all_eq_true.1 h i (by simpa using hi)
  rw [ho] at h1
  simp only [hg, Bool.and_eq_true, Bool.or_eq_true, beq_iff_eq] at h1
  refine ⟨h1.1, ?_⟩
  rcases h1.2 with ((h | h) | h) | h
  · exact .inl h
  · exact .inr (.inl h)
  · exact .inr (.inr (.inl h))
  · exact .inr (.inr (.inr h))
set_option maxRecDepth 100000 in
set_option maxHeartbeats 8000000 in
theorem regLike {id : Nat} {ops : Array Oper} (hops : ops = opsL 1) (T0 : Array Value) (hsz : 55 ≤ T0.size) (W : World) (D : PL) (ok : PLok D) (h0 : T0[0]? = some (.pointer (some ⟨D.g, 0, none⟩))) (h1 : T0[1]? = some (.pointer (some ⟨D.q, 0, none⟩))) (hb : Below D.w0.heap.size D.w0 W) {Q : Exit → Act → World → Prop}
    (hend : ∀ (us : List Value) (w : World), us.length = 46 → us.getD 45 undef = .bool false → Below D.w0.heap.size D.w0 w → Q .normal (fr (T0.toList.take 9) us (T0.toList.drop 55)) w) :
    (Code.region id ops true).wp Try.prog Q ⟨T0, []⟩ W := by
  subst hops
  have hos : (opsL 1).size = 46 := by kernel_rfl
  have hm32 := ok.o.m32
  have hnm := ok.o.nm
  refine wp_region_stG (JL D) W T0 9 (by omega) (by kernel_rfl) (by kernel_rfl) (fun i o j want ho hg don u w hJ hd => ?_) (fun u => ⟨hb.drew, by simp⟩) ?_ ?_
  · obtain ⟨rfl, h⟩ := guardL ho hg
    rcases h with rfl | rfl | rfl | rfl <;> exact hJ.kv _ hd
  · intro i o ho don u a w hT0 hU0 hdi hdone hJ K hK
    have hi : i < 46 := by
      have := (Array.getElem?_eq_some_iff.1 ho).1
      omega
    have hwait : ∀ j, waitsH (opsL 1) i j = true → don j = true := fun j hj => waitsH_of (P := fun j => don j = true) ho hdone hj
    have hv : ∀ j, waitsH (opsL 1) i j = true → (KL D j).at D (u j) w := fun j hj => hJ.kv j (hwait j hj)
    have hU : ∀ j, j < 46 → ∀ v, u j = v → a.tmps[9 + j]?.getD undef = v := fun j hj v h => by
      rw [hU0 j (by omega), h]
    have hT : ∀ t v, t < 9 → T0[t]? = some v → a.tmps[t]?.getD undef = v := fun t v ht h => by
      rw [hT0 t ht, h]
      rfl
    clear hdone hU0 hT0
    match i, hi with
    | 0, _ =>
      exact h_move 0 (opAtH ho (by kernel_rfl)) (hT 0 _ (by decide) h0) (hK _ _ (hJ.quiet 0 (Below.refl _ _) rfl))
    | 1, _ =>
      refine l_vars 9 (opAtH ho (by kernel_rfl)) (hU 0 (by decide) _ (hv 0 (by kernel_rfl))) (vars_any (hJ.h ok)) ?_
      rintro e w' ⟨rfl, rfl⟩
      exact ⟨_, rfl, hK _ _ (hJ.quiet 1 (Below.refl _ _) (by show Value.int _ _ = _; rw [ok.o.e67]))⟩
    | 2, _ =>
      exact h_move 1 (opAtH ho (by kernel_rfl)) (hT 1 _ (by decide) h1) (hK _ _ (hJ.quiet 2 (Below.refl _ _) rfl))
    | 3, _ =>
      exact h_nil 11 D.q (opAtH ho (by kernel_rfl)) (hU 2 (by decide) _ (hv 2 (by kernel_rfl))) (hK _ _ (hJ.quiet 3 (Below.refl _ _) rfl))
    | 4, _ =>
      exact l_field0 12 D.q (opAtH ho (by kernel_rfl)) (hU 3 (by decide) _ (hv 3 (by kernel_rfl))) (hK _ _ (hJ.quiet 4 (Below.refl _ _) rfl))
    | 5, _ =>
      exact l_sl64 13 ⟨D.q, 0, none⟩ (opAtH ho (by kernel_rfl)) (hU 4 (by decide) _ (hv 4 (by kernel_rfl))) (hJ.cell ok 0) (hK _ _ (hJ.quiet 5 (Below.refl _ _) rfl))
    | 6, _ =>
      exact l_len64 14 (by omega) (opAtH ho (by kernel_rfl)) (hU 5 (by decide) _ (hv 5 (by kernel_rfl))) (hK _ _ (hJ.quiet 6 (Below.refl _ _) rfl))
    | 7, _ =>
      exact l_neqI 10 15 (opAtH ho (by kernel_rfl)) (hU 1 (by decide) _ (hv 1 (by kernel_rfl))) (hU 6 (by decide) _ (hv 6 (by kernel_rfl))) (hK _ _ (hJ.quiet 7 (Below.refl _ _) rfl))
    | 8, _ =>
      exact h_move 16 (opAtH ho (by kernel_rfl)) (hU 7 (by decide) _ (hv 7 (by kernel_rfl))) (hK _ _ (hJ.quiet 8 (Below.refl _ _) rfl))
    | 9, _ =>
      exact h_move 0 (opAtH ho (by kernel_rfl)) (hT 0 _ (by decide) h0) (hK _ _ (hJ.quiet 9 (Below.refl _ _) rfl))
    | 10, _ =>
      refine l_stripes 18 (opAtH ho (by kernel_rfl)) (hU 9 (by decide) _ (hv 9 (by kernel_rfl))) (stripes_any (hJ.h ok)) ?_
      rintro e w' ⟨rfl, rfl⟩
      exact ⟨_, rfl, hK _ _ (hJ.quiet 10 (Below.refl _ _) (by show Value.int _ _ = _; rw [ok.o.e0]))⟩
    | 11, _ =>
      exact h_move 1 (opAtH ho (by kernel_rfl)) (hT 1 _ (by decide) h1) (hK _ _ (hJ.quiet 11 (Below.refl _ _) rfl))
    | 12, _ =>
      exact h_nil 20 D.q (opAtH ho (by kernel_rfl)) (hU 11 (by decide) _ (hv 11 (by kernel_rfl))) (hK _ _ (hJ.quiet 12 (Below.refl _ _) rfl))
    | 13, _ =>
      exact l_field1 21 D.q (opAtH ho (by kernel_rfl)) (hU 12 (by decide) _ (hv 12 (by kernel_rfl))) (hK _ _ (hJ.quiet 13 (Below.refl _ _) rfl))
    | 14, _ =>
      exact l_sl 22 ⟨D.q, 1, none⟩ (opAtH ho (by kernel_rfl)) (hU 13 (by decide) _ (hv 13 (by kernel_rfl))) (hJ.cell ok 1) (hK _ _ (hJ.quiet 14 (Below.refl _ _) rfl))
    | 15, _ =>
      exact l_len 23 (by omega) (opAtH ho (by kernel_rfl)) (hU 14 (by decide) _ (hv 14 (by kernel_rfl))) (hK _ _ (hJ.quiet 15 (Below.refl _ _) rfl))
    | 16, _ =>
      exact l_neqI 19 24 (opAtH ho (by kernel_rfl)) (hU 10 (by decide) _ (hv 10 (by kernel_rfl))) (hU 15 (by decide) _ (hv 15 (by kernel_rfl))) (hK _ _ (hJ.quiet 16 (Below.refl _ _) rfl))
    | 17, _ =>
      exact l_pick 17 25 (opAtH ho (by kernel_rfl)) (hU 8 (by decide) _ (hv 8 (by kernel_rfl))) (hU 16 (by decide) _ (hv 16 (by kernel_rfl))) (hK _ _ (hJ.quiet 17 (Below.refl _ _) rfl))
    | 18, _ =>
      exact h_move 26 (opAtH ho (by kernel_rfl)) (hU 17 (by decide) _ (hv 17 (by kernel_rfl))) (hK _ _ (hJ.quiet 18 (Below.refl _ _) rfl))
    | 19, _ =>
      exact h_move 0 (opAtH ho (by kernel_rfl)) (hT 0 _ (by decide) h0) (hK _ _ (hJ.quiet 19 (Below.refl _ _) rfl))
    | 20, _ =>
      refine l_clock 28 (opAtH ho (by kernel_rfl)) (hU 19 (by decide) _ (hv 19 (by kernel_rfl))) (clock_any (hJ.h ok)) ?_
      rintro e w' ⟨rfl, rfl⟩
      exact ⟨_, rfl, hK _ _ (hJ.quiet 20 (Below.refl _ _) rfl)⟩
    | 21, _ =>
      exact h_move 1 (opAtH ho (by kernel_rfl)) (hT 1 _ (by decide) h1) (hK _ _ (hJ.quiet 21 (Below.refl _ _) rfl))
    | 22, _ =>
      exact h_nil 30 D.q (opAtH ho (by kernel_rfl)) (hU 21 (by decide) _ (hv 21 (by kernel_rfl))) (hK _ _ (hJ.quiet 22 (Below.refl _ _) rfl))
    | 23, _ =>
      exact l_field3 31 D.q (opAtH ho (by kernel_rfl)) (hU 22 (by decide) _ (hv 22 (by kernel_rfl))) (hK _ _ (hJ.quiet 23 (Below.refl _ _) rfl))
    | 24, _ =>
      exact l_int 32 ⟨D.q, 3, none⟩ (opAtH ho (by kernel_rfl)) (hU 23 (by decide) _ (hv 23 (by kernel_rfl))) (hJ.cell ok 3) (hK _ _ (hJ.quiet 24 (Below.refl _ _) rfl))
    | 25, _ =>
      exact l_neqI 29 33 (opAtH ho (by kernel_rfl)) (hU 20 (by decide) _ (hv 20 (by kernel_rfl))) (hU 24 (by decide) _ (hv 24 (by kernel_rfl))) (hK _ _ (hJ.quiet 25 (Below.refl _ _) rfl))
    | 26, _ =>
      exact l_pick 27 34 (opAtH ho (by kernel_rfl)) (hU 18 (by decide) _ (hv 18 (by kernel_rfl))) (hU 25 (by decide) _ (hv 25 (by kernel_rfl))) (hK _ _ (hJ.quiet 26 (Below.refl _ _) rfl))
    | 27, _ =>
      exact h_move 35 (opAtH ho (by kernel_rfl)) (hU 26 (by decide) _ (hv 26 (by kernel_rfl))) (hK _ _ (hJ.quiet 27 (Below.refl _ _) rfl))
    | 28, _ =>
      exact h_move 0 (opAtH ho (by kernel_rfl)) (hT 0 _ (by decide) h0) (hK _ _ (hJ.quiet 28 (Below.refl _ _) rfl))
    | 29, _ =>
      refine l_limit 37 (opAtH ho (by kernel_rfl)) (hU 28 (by decide) _ (hv 28 (by kernel_rfl))) (limit_any (hJ.h ok)) ?_
      rintro e w' ⟨rfl, rfl⟩
      exact ⟨_, rfl, hK _ _ (hJ.quiet 29 (Below.refl _ _) rfl)⟩
    | 30, _ =>
      exact h_move 1 (opAtH ho (by kernel_rfl)) (hT 1 _ (by decide) h1) (hK _ _ (hJ.quiet 30 (Below.refl _ _) rfl))
    | 31, _ =>
      exact h_nil 39 D.q (opAtH ho (by kernel_rfl)) (hU 30 (by decide) _ (hv 30 (by kernel_rfl))) (hK _ _ (hJ.quiet 31 (Below.refl _ _) rfl))
    | 32, _ =>
      exact l_field4 40 D.q (opAtH ho (by kernel_rfl)) (hU 31 (by decide) _ (hv 31 (by kernel_rfl))) (hK _ _ (hJ.quiet 32 (Below.refl _ _) rfl))
    | 33, _ =>
      exact l_int 41 ⟨D.q, 4, none⟩ (opAtH ho (by kernel_rfl)) (hU 32 (by decide) _ (hv 32 (by kernel_rfl))) (hJ.cell ok 4) (hK _ _ (hJ.quiet 33 (Below.refl _ _) rfl))
    | 34, _ =>
      exact l_neqI 38 42 (opAtH ho (by kernel_rfl)) (hU 29 (by decide) _ (hv 29 (by kernel_rfl))) (hU 33 (by decide) _ (hv 33 (by kernel_rfl))) (hK _ _ (hJ.quiet 34 (Below.refl _ _) rfl))
    | 35, _ =>
      exact l_pick 36 43 (opAtH ho (by kernel_rfl)) (hU 27 (by decide) _ (hv 27 (by kernel_rfl))) (hU 34 (by decide) _ (hv 34 (by kernel_rfl))) (hK _ _ (hJ.quiet 35 (Below.refl _ _) rfl))
    | 36, _ =>
      exact h_move 44 (opAtH ho (by kernel_rfl)) (hU 35 (by decide) _ (hv 35 (by kernel_rfl))) (hK _ _ (hJ.quiet 36 (Below.refl _ _) rfl))
    | 37, _ =>
      exact h_move 0 (opAtH ho (by kernel_rfl)) (hT 0 _ (by decide) h0) (hK _ _ (hJ.quiet 37 (Below.refl _ _) rfl))
    | 38, _ =>
      refine l_values 46 (opAtH ho (by kernel_rfl)) (hU 37 (by decide) _ (hv 37 (by kernel_rfl))) (values_any (hJ.h ok) ok.b) ?_
      rintro e w' ⟨A, k, rfl, hI, _, b⟩
      exact ⟨_, rfl, hK _ _ (hJ.quiet 38 b ⟨_, _, rfl, hI⟩)⟩
    | 39, _ =>
      exact h_move 1 (opAtH ho (by kernel_rfl)) (hT 1 _ (by decide) h1) (hK _ _ (hJ.quiet 39 (Below.refl _ _) rfl))
    | 40, _ =>
      exact h_nil 48 D.q (opAtH ho (by kernel_rfl)) (hU 39 (by decide) _ (hv 39 (by kernel_rfl))) (hK _ _ (hJ.quiet 40 (Below.refl _ _) rfl))
    | 41, _ =>
      exact l_field0 49 D.q (opAtH ho (by kernel_rfl)) (hU 40 (by decide) _ (hv 40 (by kernel_rfl))) (hK _ _ (hJ.quiet 41 (Below.refl _ _) rfl))
    | 42, _ =>
      exact l_sl64 50 ⟨D.q, 0, none⟩ (opAtH ho (by kernel_rfl)) (hU 41 (by decide) _ (hv 41 (by kernel_rfl))) (hJ.cell ok 0) (hK _ _ (hJ.quiet 42 (Below.refl _ _) rfl))
    | 43, _ =>
      obtain ⟨B1, c1, e1, hI1⟩ := hv 38 (by kernel_rfl)
      have hX := ok.o.x.below hJ.b
      have hC := values_same11 _ _ B1 D.X c1 D.cx _ _ w hI1 hX.ints (Nat.le_refl _) (Nat.le_refl _)
      rw [valuesL_len D.m ok.o.e67] at hC e1
      refine l_rvalues 47 51 (opAtH ho (by kernel_rfl)) (hU 38 (by decide) _ e1) (hU 42 (by decide) _ (hv 42 (by kernel_rfl))) hC ?_
      rintro e w' ⟨rfl, b⟩
      exact ⟨_, rfl, hK _ _ (hJ.quiet 43 b (by show Value.bool _ = _; rw [decide_eq_true rfl]))⟩
    | 44, _ =>
      exact l_not 52 (opAtH ho (by kernel_rfl)) (hU 43 (by decide) _ (hv 43 (by kernel_rfl))) (hK _ _ (hJ.quiet 44 (Below.refl _ _) rfl))
    | 45, _ =>
      exact l_pick 45 53 (opAtH ho (by kernel_rfl)) (hU 36 (by decide) _ (hv 36 (by kernel_rfl))) (hU 44 (by decide) _ (hv 44 (by kernel_rfl))) (hK _ _ (hJ.quiet 45 (Below.refl _ _) rfl))
    | i + 46, h => exact absurd (show i + 46 < 46 from h) (by omega)
  · intro us w hu hJ
    rw [hos] at hu
    rw [hos]
    exact hend us w hu (hJ.kv 45 (decide_eq_true (by omega))) hJ.b
end Go.Proofs.Ytokhcogmoleocaa
