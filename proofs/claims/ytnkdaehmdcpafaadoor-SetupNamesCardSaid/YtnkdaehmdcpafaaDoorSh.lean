/-
  THE REGION OF PACKAGE code's shaped THAT DRAWS ITS ORDER: what a statement has is laid in a box, whatever the order. Conditions: as they stand. (Laid by gen_sh.py.)
-/
import Derived.Test.YtnkdaehmdcpafaaDoorRg
import Derived.Test.YtnkdaehmdcpafaaDoorCh
import Derived.Test.YtnkdaehmdcpafaaDoorEv
namespace Go.Proofs.YtnkdaehmdcpafaaDoor
open Go.RowKit
set_option linter.unusedVariables false
section
variable {a : Act} {w : World} {K : Act → World → Prop} {Q : Exit → Act → World → Prop} {o : Oper}
theorem ev_some {x : Nat} {v : Value} (h : a.tmps[x]? = some v) : a.tmps[x]?.getD undef = v := by rw [h]; rfl
theorem sl_fa (x g f : Nat) (ho : o.op = .fieldAddr 87 (.tmp x) f) (hx : a.tmps[x]?.getD undef = .pointer (some ⟨g, 0, none⟩)) (hf : f = 0 ∨ f = 3 ∨ f = 4) (hK : K (a.put o.dst (.pointer (some ⟨g, f, none⟩))) w) : Oper.wp Tryd.prog o a w K Q := by
  obtain ⟨dst, op, type, pos, after, guard⟩ := o
  have ho' : op = _ := ho
  subst ho'
  clear ho
  rcases hf with rfl | rfl | rfl
  all_goals
    go_simp
    exact hK
theorem sl_fs (x g f off : Nat) (ho : o.op = .fieldAddr 39 (.tmp x) f) (hx : a.tmps[x]?.getD undef = .pointer (some ⟨g, 0, none⟩)) (hf : (f = 1 ∧ off = 1) ∨ (f = 2 ∧ off = 2) ∨ (f = 3 ∧ off = 5) ∨ (f = 4 ∧ off = 8) ∨ (f = 5 ∧ off = 9)) (hK : K (a.put o.dst (.pointer (some ⟨g, off, none⟩))) w) : Oper.wp Tryd.prog o a w K Q := by
  obtain ⟨dst, op, type, pos, after, guard⟩ := o
  have ho' : op = _ := ho
  subst ho'
  clear ho
  rcases hf with ⟨rfl, rfl⟩ | ⟨rfl, rfl⟩ | ⟨rfl, rfl⟩ | ⟨rfl, rfl⟩ | ⟨rfl, rfl⟩
  all_goals
    go_simp
    exact hK
theorem sl_loadB (x g i : Nat) (b : Bool) (ho : o.op = .load 4 (.tmp x)) (hx : a.tmps[x]?.getD undef = .pointer (some ⟨g, i, none⟩)) (hc : w.cell? ⟨g, i, none⟩ = some (.bool b)) (hK : K (a.put o.dst (.bool b)) w) : Oper.wp Tryd.prog o a w K Q := by
  obtain ⟨dst, op, type, pos, after, guard⟩ := o
  have ho' : op = _ := ho
  subst ho'
  clear ho
  have hi := Tryd.isAgg4
  go_simp
  exact hK
theorem sl_loadI (x g i : Nat) (n : Int) (ho : o.op = .load 3 (.tmp x)) (hx : a.tmps[x]?.getD undef = .pointer (some ⟨g, i, none⟩)) (hc : w.cell? ⟨g, i, none⟩ = some (.int .i64 n)) (hK : K (a.put o.dst (.int .i64 n)) w) : Oper.wp Tryd.prog o a w K Q := by
  obtain ⟨dst, op, type, pos, after, guard⟩ := o
  have ho' : op = _ := ho
  subst ho'
  clear ho
  have hi := Tryd.isAgg3
  go_simp
  exact hK
theorem sl_loadS (x g i : Nat) (A : Option Addr) (l c : Nat) (ho : o.op = .load 34 (.tmp x)) (hx : a.tmps[x]?.getD undef = .pointer (some ⟨g, i, none⟩)) (hc : w.cell? ⟨g, i, none⟩ = some (.slice A l c)) (hK : K (a.put o.dst (.slice A l c)) w) : Oper.wp Tryd.prog o a w K Q := by
  obtain ⟨dst, op, type, pos, after, guard⟩ := o
  have ho' : op = _ := ho
  subst ho'
  clear ho
  have hi := Tryd.isAgg34
  go_simp
  exact hK
theorem sl_loadE (x g i : Nat) {u v z : Value} (ho : o.op = .load 37 (.tmp x)) (hx : a.tmps[x]?.getD undef = .pointer (some ⟨g, i, none⟩)) (c0 : w.cell? ⟨g, i, none⟩ = some u) (c1 : w.cell? ⟨g, i + 1, none⟩ = some v) (c2 : w.cell? ⟨g, i + 2, none⟩ = some z) (hK : K (a.put o.dst (.agg #[u, v, z])) w) : Oper.wp Tryd.prog o a w K Q := by
  obtain ⟨dst, op, type, pos, after, guard⟩ := o
  have ho' : op = _ := ho
  subst ho'
  clear ho
  have hi := Tryd.isAgg37
  have hs := Tryd.sizeOf37
  go_simp
  exact hK
theorem sl_moveB (x : Nat) (b : Bool) (ho : o.op = .move (.tmp x)) (hx : a.tmps[x]?.getD undef = .bool b) (hK : K (a.put o.dst (.bool b)) w) : Oper.wp Tryd.prog o a w K Q := by
  obtain ⟨dst, op, type, pos, after, guard⟩ := o
  have ho' : op = _ := ho
  subst ho'
  clear ho
  go_simp
  exact hK
theorem sl_not (x : Nat) (b : Bool) (ho : o.op = .unOp .not 4 (.tmp x)) (hx : a.tmps[x]?.getD undef = .bool b) (hK : K (a.put o.dst (.bool (!b))) w) : Oper.wp Tryd.prog o a w K Q := by
  obtain ⟨dst, op, type, pos, after, guard⟩ := o
  have ho' : op = _ := ho
  subst ho'
  clear ho
  go_simp
  exact hK
theorem sl_neq (x : Nat) (n : Int) (ho : o.op = .binOp .neq 3 (.tmp x) (.const (.int .i64 0)) 3) (hx : a.tmps[x]?.getD undef = .int .i64 n) (hK : K (a.put o.dst (.bool (n != 0))) w) : Oper.wp Tryd.prog o a w K Q := by
  obtain ⟨dst, op, type, pos, after, guard⟩ := o
  have ho' : op = _ := ho
  subst ho'
  clear ho
  go_simp
  exact hK
theorem sl_gtr (x : Nat) (n : Nat) (ho : o.op = .binOp .gtr 3 (.tmp x) (.const (.int .i64 0)) 3) (hx : a.tmps[x]?.getD undef = .int .i64 n) (hK : K (a.put o.dst (.bool (decide (0 < n)))) w) : Oper.wp Tryd.prog o a w K Q := by
  obtain ⟨dst, op, type, pos, after, guard⟩ := o
  have ho' : op = _ := ho
  subst ho'
  clear ho
  go_simp
  exact hK
theorem sl_pick1 (x y : Nat) (ho : o.op = .pick (.tmp x) (.const (.bool true)) (.tmp y)) (hx : a.tmps[x]?.getD undef = .bool true) (hK : K (a.put o.dst (.bool true)) w) : Oper.wp Tryd.prog o a w K Q := by
  obtain ⟨dst, op, type, pos, after, guard⟩ := o
  have ho' : op = _ := ho
  subst ho'
  clear ho
  go_simp
  exact hK
theorem sl_pick0 (x y : Nat) (b : Bool) (ho : o.op = .pick (.tmp x) (.const (.bool true)) (.tmp y)) (hx : a.tmps[x]?.getD undef = .bool false) (hy : a.tmps[y]?.getD undef = .bool b) (hK : K (a.put o.dst (.bool b)) w) : Oper.wp Tryd.prog o a w K Q := by
  obtain ⟨dst, op, type, pos, after, guard⟩ := o
  have ho' : op = _ := ho
  subst ho'
  clear ho
  go_simp
  exact hK
theorem sl_len (x : Nat) (A : Option Addr) (l c : Nat) (ho : o.op = .call { callee := .builtin .len, args := #[.tmp x], argTypes := #[34] }) (hx : a.tmps[x]?.getD undef = .slice A l c) (hK : K (a.put o.dst (.int .i64 l)) w) : Oper.wp Tryd.prog o a w K Q := by
  obtain ⟨dst, op, type, pos, after, guard⟩ := o
  have ho' : op = _ := ho
  subst ho'
  clear ho
  go_simp
  exact hK
theorem sl_build (b0 b1 b2 b3 b4 : Bool) (ho : o.op = .build 87 #[(0, .tmp 25), (1, .tmp 29), (2, .tmp 33), (3, .tmp 41), (4, .tmp 49)]) (h0 : a.tmps[25]?.getD undef = .bool b0) (h1 : a.tmps[29]?.getD undef = .bool b1) (h2 : a.tmps[33]?.getD undef = .bool b2) (h3 : a.tmps[41]?.getD undef = .bool b3) (h4 : a.tmps[49]?.getD undef = .bool b4) (hK : K (a.put o.dst (.agg #[.bool b0, .bool b1, .bool b2, .bool b3, .bool b4])) w) : Oper.wp Tryd.prog o a w K Q := by
  obtain ⟨dst, op, type, pos, after, guard⟩ := o
  have ho' : op = _ := ho
  subst ho'
  clear ho
  go_simp
  exact hK
theorem sl_alloc  (ho : o.op = .alloc 87) (hK : K (a.put o.dst (.pointer (some ⟨w.heap.size, 0, none⟩))) (w.alloc (.cells #[.bool false, .bool false, .bool false, .bool false, .bool false] 87))) : Oper.wp Tryd.prog o a w K Q := by
  obtain ⟨dst, op, type, pos, after, guard⟩ := o
  have ho' : op = _ := ho
  subst ho'
  clear ho
  go_simp
  exact hK
theorem sl_none (x : Nat) {v : Value} (r : Bool) (ho : o.op = .call { callee := .value (.func 68), args := #[.tmp x], argTypes := #[37] }) (hx2 : a.tmps[x]?.getD undef = v)
    (hc : Calls Tryd.prog 68 #[v] w fun e w' => e = .returned (.bool r) ∧ Below w.heap.size w w') (hK : ∀ w', Below w.heap.size w w' → K (a.put o.dst (.bool r)) w') : Oper.wp Tryd.prog o a w K Q := by
  obtain ⟨dst, op, type, pos, after, guard⟩ := o
  have ho' : op = _ := ho
  subst ho'
  have h1 := Tryd.func68
  have HC := Lib.hid hc
  clear ho hc
  go_simp
  refine HC.out.mono ?_
  rintro e w' ⟨rfl, hb⟩
  exact hK w' hb
theorem sl_store (g : Nat) (b0 b1 b2 b3 b4 : Bool) (ho : o.op = .store 87 (.tmp 6) (.tmp 50)) (hx : a.tmps[6]?.getD undef = .pointer (some ⟨g, 0, none⟩)) (hy : a.tmps[50]?.getD undef = .agg #[.bool b0, .bool b1, .bool b2, .bool b3, .bool b4])
    (hw : w.heap[g]? = some (.cells #[.bool false, .bool false, .bool false, .bool false, .bool false] 87 (0, 0)))
    (hK : K (a.put o.dst undef) (((((w.setCell ⟨g, 0, none⟩ (.bool b0)).setCell ⟨g, 1, none⟩ (.bool b1)).setCell ⟨g, 2, none⟩ (.bool b2)).setCell ⟨g, 3, none⟩ (.bool b3)).setCell ⟨g, 4, none⟩ (.bool b4))) : Oper.wp Tryd.prog o a w K Q := by
  obtain ⟨dst, op, type, pos, after, guard⟩ := o
  have ho' : op = _ := ho
  subst ho'
  clear ho
  have c0 : w.cell? ⟨g, 0, none⟩ = some (.bool false) := by simp [World.cell?, hw]
  have c1 : w.cell? ⟨g, 1, none⟩ = some (.bool false) := by simp [World.cell?, hw]
  have c2 : w.cell? ⟨g, 2, none⟩ = some (.bool false) := by simp [World.cell?, hw]
  have c3 : w.cell? ⟨g, 3, none⟩ = some (.bool false) := by simp [World.cell?, hw]
  have c4 : w.cell? ⟨g, 4, none⟩ = some (.bool false) := by simp [World.cell?, hw]
  have f0 : ∀ i, w.frozen? ⟨g, i, none⟩ = false := fun i => by simp [World.frozen?, hw]
  clear hw
  go_simp
  exact hK
end
theorem cell_of_row5 {W : World} {g : Nat} {cs : Array Value} {t : TypeId} (h : W.heap[g]? = some (.cells cs t (0, 0))) (i : Nat) : W.cell? ⟨g, i, none⟩ = cs[i]? := by simp [World.cell?, h]
theorem wanted_none {o : Oper} {y : Nat → Option Bool} (h : o.guard = none) : Region.wanted o y = true := by simp [Region.wanted, h]
theorem wanted_some {o : Oper} {y : Nat → Option Bool} {j : Nat} {b b' : Bool} (h : o.guard = some (j, b)) (hy : y j = some b') : Region.wanted o y = (b' == b) := by
  simp [Region.wanted, h, hy]
theorem yields_some {ops : Array Oper} {T : Array Value} {j d : Nat} {b : Bool} (hd : (ops[j]?).bind (·.dst) = some d) (ht : T[d]? = some (.bool b)) : yielded ops T j = some b := by
  unfold yielded
  rw [hd]
  simp [ht]
def depG (ops : Array Oper) (i j : Nat) : Bool := match ops[i]? with
  | some o => o.after.any fun e => Region.binds .any e && e.on == j
  | none => false
theorem depG_spec {ops : Array Oper} {i j : Nat} {o : Oper} (ho : ops[i]? = some o) (h : depG ops i j = true) : ∃ e ∈ o.after.toList, Region.binds .any e = true ∧ e.on = j := by
  unfold depG at h
  rw [ho] at h
  obtain ⟨e, he, h6⟩ := Array.any_eq_true'.1 h
  simp only [Bool.and_eq_true, beq_iff_eq] at h6
  exact ⟨e, by simpa using he, h6.1, h6.2⟩
def shDs : List Nat := [19, 20, 21, 22, 23, 24, 25, 26, 27, 28, 29, 30, 31, 32, 33, 34, 35, 36, 37, 38, 39, 40, 41, 42, 43, 44, 45, 46, 47, 48, 49, 50, 6]
def shOps : List Op := [.fieldAddr 87 (.tmp 5) 0,
  .load 4 (.tmp 19),
  .move (.tmp 20),
  .fieldAddr 39 (.tmp 2) 1,
  .load 3 (.tmp 22),
  .binOp .neq 3 (.tmp 23) (.const (.int .i64 0)) 3,
  .pick (.tmp 21) (.const (.bool true)) (.tmp 24),
  .fieldAddr 39 (.tmp 2) 2,
  .load 37 (.tmp 26),
  .call { callee := .value (.func 68), args := #[.tmp 27], argTypes := #[37] },
  .unOp .not 4 (.tmp 28),
  .fieldAddr 39 (.tmp 2) 3,
  .load 37 (.tmp 30),
  .call { callee := .value (.func 68), args := #[.tmp 31], argTypes := #[37] },
  .unOp .not 4 (.tmp 32),
  .fieldAddr 87 (.tmp 5) 3,
  .load 4 (.tmp 34),
  .move (.tmp 35),
  .fieldAddr 39 (.tmp 2) 4,
  .load 34 (.tmp 37),
  .call { callee := .builtin .len, args := #[.tmp 38], argTypes := #[34] },
  .binOp .gtr 3 (.tmp 39) (.const (.int .i64 0)) 3,
  .pick (.tmp 36) (.const (.bool true)) (.tmp 40),
  .fieldAddr 87 (.tmp 5) 4,
  .load 4 (.tmp 42),
  .move (.tmp 43),
  .fieldAddr 39 (.tmp 2) 5,
  .load 34 (.tmp 45),
  .call { callee := .builtin .len, args := #[.tmp 46], argTypes := #[34] },
  .binOp .gtr 3 (.tmp 47) (.const (.int .i64 0)) 3,
  .pick (.tmp 44) (.const (.bool true)) (.tmp 48),
  .build 87 #[(0, .tmp 25), (1, .tmp 29), (2, .tmp 33), (3, .tmp 41), (4, .tmp 49)],
  .alloc 87, .store 87 (.tmp 6) (.tmp 50)]
def shGs : List (Option (Nat × Bool)) := [none, none, none, some (2, false), some (2, false), some (2, false), none, none, none, none, none, none, none, none, none, none, none, none, some (17, false), some (17, false), some (17, false), some (17, false), none, none, none, none, some (25, false), some (25, false), some (25, false), some (25, false), none, none, none, none]
def shDeps : List (Nat × Nat) := [(1, 0), (2, 1), (3, 2), (4, 3), (4, 2), (5, 4), (5, 2), (6, 2), (6, 5), (8, 7), (9, 8), (10, 9), (12, 11), (13, 12), (14, 13), (16, 15), (17, 16), (18, 17), (19, 18), (19, 17), (20, 19), (20, 17), (21, 20), (21, 17), (22, 17), (22, 21), (24, 23), (25, 24), (26, 25), (27, 26), (27, 25), (28, 27), (28, 25), (29, 28), (29, 25), (30, 25), (30, 29), (31, 6), (31, 10), (31, 14), (31, 22), (31, 30)]
/-- What each operation leaves. -/
def shV (g ga : Nat) (rk : Nat) (rt : Int) (rao : Nat) (ran : Int) (raA : Option Addr) (ral rac rbo : Nat) (rbn : Int) (rbA : Option Addr) (rbl rbc : Nat) (ryA : Option Addr) (ryl ryc : Nat) (reA : Option Addr) (rel r9c : Nat) (qto qa qb qy qe na nb : Bool) : Nat → Value → Prop
  | 0, v => v = .pointer (some ⟨ga, 0, none⟩)
  | 1, v => v = .bool qto
  | 2, v => v = .bool qto
  | 3, v => qto = false → v = .pointer (some ⟨g, 1, none⟩)
  | 4, v => qto = false → v = .int .i64 rt
  | 5, v => qto = false → v = .bool (rt != 0)
  | 6, v => v = .bool (qto || rt != 0)
  | 7, v => v = .pointer (some ⟨g, 2, none⟩)
  | 8, v => v = .agg #[.int .u8 rao, .int .i64 ran, .slice raA ral rac]
  | 9, v => v = .bool na
  | 10, v => v = .bool (!na)
  | 11, v => v = .pointer (some ⟨g, 5, none⟩)
  | 12, v => v = .agg #[.int .u8 rbo, .int .i64 rbn, .slice rbA rbl rbc]
  | 13, v => v = .bool nb
  | 14, v => v = .bool (!nb)
  | 15, v => v = .pointer (some ⟨ga, 3, none⟩)
  | 16, v => v = .bool qy
  | 17, v => v = .bool qy
  | 18, v => qy = false → v = .pointer (some ⟨g, 8, none⟩)
  | 19, v => qy = false → v = .slice ryA ryl ryc
  | 20, v => qy = false → v = .int .i64 (ryl : Nat)
  | 21, v => qy = false → v = .bool (decide (0 < ryl))
  | 22, v => v = .bool (qy || decide (0 < ryl))
  | 23, v => v = .pointer (some ⟨ga, 4, none⟩)
  | 24, v => v = .bool qe
  | 25, v => v = .bool qe
  | 26, v => qe = false → v = .pointer (some ⟨g, 9, none⟩)
  | 27, v => qe = false → v = .slice reA rel r9c
  | 28, v => qe = false → v = .int .i64 (rel : Nat)
  | 29, v => qe = false → v = .bool (decide (0 < rel))
  | 30, v => v = .bool (qe || decide (0 < rel))
  | 31, v => v = .agg #[.bool (qto || rt != 0), .bool (!na), .bool (!nb), .bool (qy || decide (0 < ryl)), .bool (qe || decide (0 < rel))]
  | _, _ => True
set_option maxRecDepth 100000 in
set_option maxHeartbeats 4000000 in
theorem shaped_region {id : Nat} (ops : Array Oper) (hok : okGen shDs ops = true) (hops : ops.toList.map (·.op) = shOps) (hgs : ops.toList.map (·.guard) = shGs) (hdsts : ops.toList.map (·.dst) = shDs.map some ++ [none]) (hdeps : (shDeps.all fun q => depG ops q.1 q.2) = true)
    (W : World) (T : Array Value) (hT : T.size = 76) (g ga : Nat) (rk : Nat) (rt : Int) (rao : Nat) (ran : Int) (raA : Option Addr) (ral rac rbo : Nat) (rbn : Int) (rbA : Option Addr) (rbl rbc : Nat) (ryA : Option Addr) (ryl ryc : Nat) (reA : Option Addr) (rel r9c : Nat) (qto qa qb qy qe na nb : Bool)
    (t2 : T[2]? = some (.pointer (some ⟨g, 0, none⟩))) (t5 : T[5]? = some (.pointer (some ⟨ga, 0, none⟩)))
    (tW : Ten W ⟨g, 0, none⟩ ⟨rk, rt, rao, ran, raA, ral, rac, rbo, rbn, rbA, rbl, rbc, ryA, ryl, ryc, reA, rel, r9c⟩) (qW : Five W ga qto qa qb qy qe) (hg : g < W.heap.size) (hga : ga < W.heap.size)
    (ha : ∀ W', Below W.heap.size W W' → Calls Tryd.prog 68 #[.agg #[.int .u8 rao, .int .i64 ran, .slice raA ral rac]] W' fun e w' => e = .returned (.bool na) ∧ Below W'.heap.size W' w')
    (hb : ∀ W', Below W.heap.size W W' → Calls Tryd.prog 68 #[.agg #[.int .u8 rbo, .int .i64 rbn, .slice rbA rbl rbc]] W' fun e w' => e = .returned (.bool nb) ∧ Below W'.heap.size W' w')
    {Q : Exit → Act → World → Prop}
    (hQ : ∀ us w' g', us.length = 33 → us.getD 32 undef = .pointer (some ⟨g', 0, none⟩) → W.heap.size ≤ g' → g' < w'.heap.size → Below W.heap.size W w' → Five w' g' (qto || rt != 0) (!na) (!nb) (qy || decide (0 < ryl)) (qe || decide (0 < rel)) → Q .normal ⟨putAll T shDs us, []⟩ w') :
    (Code.region id ops true).wp Tryd.prog Q ⟨T, []⟩ W := by
  have hop : ∀ (i : Nat) (o : Oper), ops[i]? = some o → shOps[i]? = some o.op := fun i o ho => by
    rw [← hops, List.getElem?_map, Array.getElem?_toList, ho]
    rfl
  have hgd : ∀ (i : Nat) (o : Oper), ops[i]? = some o → shGs[i]? = some o.guard := fun i o ho => by
    rw [← hgs, List.getElem?_map, Array.getElem?_toList, ho]
    rfl
  have hds : ∀ (i d : Nat), (shDs.map some ++ [none])[i]? = some (some d) → (ops[i]?).bind (·.dst) = some d := fun i d h => by
    rw [← hdsts, List.getElem?_map, Array.getElem?_toList] at h
    cases hh : ops[i]? with
    | none => rw [hh] at h; cases h
    | some o => rw [hh] at h; simpa using h
  have hdep := List.all_eq_true.1 hdeps
  have hl : shDs.length = 33 := rfl
  have hnd : shDs.Nodup := by decide
  have hlt : ∀ d ∈ shDs, d < T.size := by rw [hT]; decide
  refine wp_region_gen (fun i v w => shV g ga rk rt rao ran raA ral rac rbo rbn rbA rbl rbc ryA ryl ryc reA rel r9c qto qa qb qy qe na nb i v ∧ (i = 32 → ∃ g', v = .pointer (some ⟨g', 0, none⟩) ∧ W.heap.size ≤ g' ∧ w.heap[g']? = some (.cells #[.bool false, .bool false, .bool false, .bool false, .bool false] 87 (0, 0)))) shDs W T hnd hlt (by kernel_rfl) hok ?_ ?_ ?_
  · rintro i v w w' h1 h2 ⟨h3, h4⟩
    refine ⟨h3, fun h => ?_⟩
    obtain ⟨g', e1, e2, e3⟩ := h4 h
    exact ⟨g', e1, e2, (h2.block g' (Array.getElem?_eq_some_iff.1 e3).1).trans e3⟩
  · intro i o ho hi a w hpre hdp hbl K hK
    have hoo := hop i o ho
    have hgg := hgd i o ho
    rw [hl] at hi
    have t2' := (hpre 2 (by decide)).trans t2
    have t5' := (hpre 5 (by decide)).trans t5
    have dep : ∀ j, depG ops i j = true → ∃ v, a.tmps[shDs.getD j 0]? = some v ∧ shV g ga rk rt rao ran raA ral rac rbo rbn rbA rbl rbc ryA ryl ryc reA rel r9c qto qa qb qy qe na nb j v := fun j hd => by
      obtain ⟨e, he, hbn, rfl⟩ := depG_spec ho hd
      obtain ⟨v, h1, h2⟩ := hdp e he hbn
      exact ⟨v, h1, h2.1⟩
    have ck : ∀ (j : Nat) (v : Value), W.cell? ⟨g, 0 + j, none⟩ = some v → w.cell? ⟨g, j, none⟩ = some v := fun j v h => by
      rw [Nat.zero_add] at h
      exact (hbl.cell (p := ⟨g, j, none⟩) hg).trans h
    have ckq : ∀ (q : Addr) (v : Value), q.block < W.heap.size → W.cell? q = some v → w.cell? q = some v := fun q v hq h => (hbl.cell hq).trans h
    clear hdp hops hgs hdsts hok
    obtain rfl | rfl | rfl | rfl | rfl | rfl | rfl | rfl | rfl | rfl | rfl | rfl | rfl | rfl | rfl | rfl | rfl | rfl | rfl | rfl | rfl | rfl | rfl | rfl | rfl | rfl | rfl | rfl | rfl | rfl | rfl | rfl | rfl : i = 0 ∨ i = 1 ∨ i = 2 ∨ i = 3 ∨ i = 4 ∨ i = 5 ∨ i = 6 ∨ i = 7 ∨ i = 8 ∨ i = 9 ∨ i = 10 ∨ i = 11 ∨ i = 12 ∨ i = 13 ∨ i = 14 ∨ i = 15 ∨ i = 16 ∨ i = 17 ∨ i = 18 ∨ i = 19 ∨ i = 20 ∨ i = 21 ∨ i = 22 ∨ i = 23 ∨ i = 24 ∨ i = 25 ∨ i = 26 ∨ i = 27 ∨ i = 28 ∨ i = 29 ∨ i = 30 ∨ i = 31 ∨ i = 32 := by omega
    · have e := (Option.some.inj hoo).symm
      have eg := (Option.some.inj hgg).symm
      rw [if_pos (wanted_none eg)]
      exact sl_fa 5 ga 0 e (ev_some t5') (.inl rfl) (hK _ _ (Below.refl _ _) ⟨rfl, fun h => by cases h⟩)
    · have e := (Option.some.inj hoo).symm
      have eg := (Option.some.inj hgg).symm
      obtain ⟨v0, x0, s0⟩ := dep 0 (hdep (1, 0) (by decide))
      have y0 : a.tmps[19]?.getD undef = .pointer (some ⟨ga, 0, none⟩) := ev_some (by rw [← (show v0 = _ from s0)]; exact x0)
      rw [if_pos (wanted_none eg)]
      exact sl_loadB 19 ga 0 qto e y0 (ckq _ _ hga qW.c0) (hK _ _ (Below.refl _ _) ⟨rfl, fun h => by cases h⟩)
    · have e := (Option.some.inj hoo).symm
      have eg := (Option.some.inj hgg).symm
      obtain ⟨v1, x1, s1⟩ := dep 1 (hdep (2, 1) (by decide))
      have y1 : a.tmps[20]?.getD undef = .bool qto := ev_some (by rw [← (show v1 = _ from s1)]; exact x1)
      rw [if_pos (wanted_none eg)]
      exact sl_moveB 20 qto e y1 (hK _ _ (Below.refl _ _) ⟨rfl, fun h => by cases h⟩)
    · have e := (Option.some.inj hoo).symm
      have eg := (Option.some.inj hgg).symm
      obtain ⟨v2, x2, s2⟩ := dep 2 (hdep (3, 2) (by decide))
      obtain hq | hq : qto = true ∨ qto = false := by cases qto <;> simp
      · have hwn : Region.wanted o (yielded ops a.tmps) = false := wanted_some eg (yields_some (b := true) (hds 2 21 rfl) (by rw [← hq, ← (show v2 = _ from s2)]; exact x2))
        rw [hwn, if_neg (by simp)]
        exact hK _ _ (Below.refl _ _) ⟨fun h => (by rw [hq] at h; cases h), fun h => (by cases h)⟩
      · have hwn : Region.wanted o (yielded ops a.tmps) = true := wanted_some eg (yields_some (b := false) (hds 2 21 rfl) (by rw [← hq, ← (show v2 = _ from s2)]; exact x2))
        rw [if_pos hwn]
        exact sl_fs 2 g 1 1 e (ev_some t2') (.inl ⟨rfl, rfl⟩) (hK _ _ (Below.refl _ _) ⟨fun _ => rfl, fun h => by cases h⟩)
    · have e := (Option.some.inj hoo).symm
      have eg := (Option.some.inj hgg).symm
      obtain ⟨v3, x3, s3⟩ := dep 3 (hdep (4, 3) (by decide))
      obtain ⟨v2, x2, s2⟩ := dep 2 (hdep (4, 2) (by decide))
      obtain hq | hq : qto = true ∨ qto = false := by cases qto <;> simp
      · have hwn : Region.wanted o (yielded ops a.tmps) = false := wanted_some eg (yields_some (b := true) (hds 2 21 rfl) (by rw [← hq, ← (show v2 = _ from s2)]; exact x2))
        rw [hwn, if_neg (by simp)]
        exact hK _ _ (Below.refl _ _) ⟨fun h => (by rw [hq] at h; cases h), fun h => (by cases h)⟩
      · have hwn : Region.wanted o (yielded ops a.tmps) = true := wanted_some eg (yields_some (b := false) (hds 2 21 rfl) (by rw [← hq, ← (show v2 = _ from s2)]; exact x2))
        have y3 : a.tmps[22]?.getD undef = .pointer (some ⟨g, 1, none⟩) := ev_some (by rw [← (show v3 = _ from s3 hq)]; exact x3)
        rw [if_pos hwn]
        exact sl_loadI 22 g 1 rt e y3 (ck 1 _ tW.c1) (hK _ _ (Below.refl _ _) ⟨fun _ => rfl, fun h => by cases h⟩)
    · have e := (Option.some.inj hoo).symm
      have eg := (Option.some.inj hgg).symm
      obtain ⟨v4, x4, s4⟩ := dep 4 (hdep (5, 4) (by decide))
      obtain ⟨v2, x2, s2⟩ := dep 2 (hdep (5, 2) (by decide))
      obtain hq | hq : qto = true ∨ qto = false := by cases qto <;> simp
      · have hwn : Region.wanted o (yielded ops a.tmps) = false := wanted_some eg (yields_some (b := true) (hds 2 21 rfl) (by rw [← hq, ← (show v2 = _ from s2)]; exact x2))
        rw [hwn, if_neg (by simp)]
        exact hK _ _ (Below.refl _ _) ⟨fun h => (by rw [hq] at h; cases h), fun h => (by cases h)⟩
      · have hwn : Region.wanted o (yielded ops a.tmps) = true := wanted_some eg (yields_some (b := false) (hds 2 21 rfl) (by rw [← hq, ← (show v2 = _ from s2)]; exact x2))
        have y4 : a.tmps[23]?.getD undef = .int .i64 rt := ev_some (by rw [← (show v4 = _ from s4 hq)]; exact x4)
        rw [if_pos hwn]
        exact sl_neq 23 rt e y4 (hK _ _ (Below.refl _ _) ⟨fun _ => rfl, fun h => by cases h⟩)
    · have e := (Option.some.inj hoo).symm
      have eg := (Option.some.inj hgg).symm
      obtain ⟨v2, x2, s2⟩ := dep 2 (hdep (6, 2) (by decide))
      obtain ⟨v5, x5, s5⟩ := dep 5 (hdep (6, 5) (by decide))
      rw [if_pos (wanted_none eg)]
      obtain hq | hq : qto = true ∨ qto = false := by cases qto <;> simp
      · have y2 : a.tmps[21]?.getD undef = .bool true := ev_some (by rw [← hq, ← (show v2 = _ from s2)]; exact x2)
        refine sl_pick1 21 24 e y2 (hK _ _ (Below.refl _ _) ⟨?_, fun h => by cases h⟩)
        show Value.bool true = _
        rw [hq]; rfl
      · have y2 : a.tmps[21]?.getD undef = .bool false := ev_some (by rw [← hq, ← (show v2 = _ from s2)]; exact x2)
        have y5 : a.tmps[24]?.getD undef = .bool (rt != 0) := ev_some (by rw [← (show v5 = _ from s5 hq)]; exact x5)
        refine sl_pick0 21 24 _ e y2 y5 (hK _ _ (Below.refl _ _) ⟨?_, fun h => by cases h⟩)
        show Value.bool _ = _
        rw [hq]; rfl
    · have e := (Option.some.inj hoo).symm
      have eg := (Option.some.inj hgg).symm
      rw [if_pos (wanted_none eg)]
      exact sl_fs 2 g 2 2 e (ev_some t2') (.inr (.inl ⟨rfl, rfl⟩)) (hK _ _ (Below.refl _ _) ⟨rfl, fun h => by cases h⟩)
    · have e := (Option.some.inj hoo).symm
      have eg := (Option.some.inj hgg).symm
      obtain ⟨v7, x7, s7⟩ := dep 7 (hdep (8, 7) (by decide))
      have y7 : a.tmps[26]?.getD undef = .pointer (some ⟨g, 2, none⟩) := ev_some (by rw [← (show v7 = _ from s7)]; exact x7)
      rw [if_pos (wanted_none eg)]
      exact sl_loadE 26 g 2 e y7 (ck 2 _ tW.c2) (ck 3 _ tW.c3) (ck 4 _ tW.c4) (hK _ _ (Below.refl _ _) ⟨rfl, fun h => by cases h⟩)
    · have e := (Option.some.inj hoo).symm
      have eg := (Option.some.inj hgg).symm
      obtain ⟨v8, x8, s8⟩ := dep 8 (hdep (9, 8) (by decide))
      have y8 : a.tmps[27]?.getD undef = .agg #[.int .u8 rao, .int .i64 ran, .slice raA ral rac] := ev_some (by rw [← (show v8 = _ from s8)]; exact x8)
      rw [if_pos (wanted_none eg)]
      exact sl_none 27 na e y8 (ha w hbl) fun w' hb' => hK _ _ hb' ⟨rfl, fun h => by cases h⟩
    · have e := (Option.some.inj hoo).symm
      have eg := (Option.some.inj hgg).symm
      obtain ⟨v9, x9, s9⟩ := dep 9 (hdep (10, 9) (by decide))
      have y9 : a.tmps[28]?.getD undef = .bool na := ev_some (by rw [← (show v9 = _ from s9)]; exact x9)
      rw [if_pos (wanted_none eg)]
      exact sl_not 28 na e y9 (hK _ _ (Below.refl _ _) ⟨rfl, fun h => by cases h⟩)
    · have e := (Option.some.inj hoo).symm
      have eg := (Option.some.inj hgg).symm
      rw [if_pos (wanted_none eg)]
      exact sl_fs 2 g 3 5 e (ev_some t2') (.inr (.inr (.inl ⟨rfl, rfl⟩))) (hK _ _ (Below.refl _ _) ⟨rfl, fun h => by cases h⟩)
    · have e := (Option.some.inj hoo).symm
      have eg := (Option.some.inj hgg).symm
      obtain ⟨v11, x11, s11⟩ := dep 11 (hdep (12, 11) (by decide))
      have y11 : a.tmps[30]?.getD undef = .pointer (some ⟨g, 5, none⟩) := ev_some (by rw [← (show v11 = _ from s11)]; exact x11)
      rw [if_pos (wanted_none eg)]
      exact sl_loadE 30 g 5 e y11 (ck 5 _ tW.c5) (ck 6 _ tW.c6) (ck 7 _ tW.c7) (hK _ _ (Below.refl _ _) ⟨rfl, fun h => by cases h⟩)
    · have e := (Option.some.inj hoo).symm
      have eg := (Option.some.inj hgg).symm
      obtain ⟨v12, x12, s12⟩ := dep 12 (hdep (13, 12) (by decide))
      have y12 : a.tmps[31]?.getD undef = .agg #[.int .u8 rbo, .int .i64 rbn, .slice rbA rbl rbc] := ev_some (by rw [← (show v12 = _ from s12)]; exact x12)
      rw [if_pos (wanted_none eg)]
      exact sl_none 31 nb e y12 (hb w hbl) fun w' hb' => hK _ _ hb' ⟨rfl, fun h => by cases h⟩
    · have e := (Option.some.inj hoo).symm
      have eg := (Option.some.inj hgg).symm
      obtain ⟨v13, x13, s13⟩ := dep 13 (hdep (14, 13) (by decide))
      have y13 : a.tmps[32]?.getD undef = .bool nb := ev_some (by rw [← (show v13 = _ from s13)]; exact x13)
      rw [if_pos (wanted_none eg)]
      exact sl_not 32 nb e y13 (hK _ _ (Below.refl _ _) ⟨rfl, fun h => by cases h⟩)
    · have e := (Option.some.inj hoo).symm
      have eg := (Option.some.inj hgg).symm
      rw [if_pos (wanted_none eg)]
      exact sl_fa 5 ga 3 e (ev_some t5') (.inr (.inl rfl)) (hK _ _ (Below.refl _ _) ⟨rfl, fun h => by cases h⟩)
    · have e := (Option.some.inj hoo).symm
      have eg := (Option.some.inj hgg).symm
      obtain ⟨v15, x15, s15⟩ := dep 15 (hdep (16, 15) (by decide))
      have y15 : a.tmps[34]?.getD undef = .pointer (some ⟨ga, 3, none⟩) := ev_some (by rw [← (show v15 = _ from s15)]; exact x15)
      rw [if_pos (wanted_none eg)]
      exact sl_loadB 34 ga 3 qy e y15 (ckq _ _ hga qW.c3) (hK _ _ (Below.refl _ _) ⟨rfl, fun h => by cases h⟩)
    · have e := (Option.some.inj hoo).symm
      have eg := (Option.some.inj hgg).symm
      obtain ⟨v16, x16, s16⟩ := dep 16 (hdep (17, 16) (by decide))
      have y16 : a.tmps[35]?.getD undef = .bool qy := ev_some (by rw [← (show v16 = _ from s16)]; exact x16)
      rw [if_pos (wanted_none eg)]
      exact sl_moveB 35 qy e y16 (hK _ _ (Below.refl _ _) ⟨rfl, fun h => by cases h⟩)
    · have e := (Option.some.inj hoo).symm
      have eg := (Option.some.inj hgg).symm
      obtain ⟨v17, x17, s17⟩ := dep 17 (hdep (18, 17) (by decide))
      obtain hq | hq : qy = true ∨ qy = false := by cases qy <;> simp
      · have hwn : Region.wanted o (yielded ops a.tmps) = false := wanted_some eg (yields_some (b := true) (hds 17 36 rfl) (by rw [← hq, ← (show v17 = _ from s17)]; exact x17))
        rw [hwn, if_neg (by simp)]
        exact hK _ _ (Below.refl _ _) ⟨fun h => (by rw [hq] at h; cases h), fun h => (by cases h)⟩
      · have hwn : Region.wanted o (yielded ops a.tmps) = true := wanted_some eg (yields_some (b := false) (hds 17 36 rfl) (by rw [← hq, ← (show v17 = _ from s17)]; exact x17))
        rw [if_pos hwn]
        exact sl_fs 2 g 4 8 e (ev_some t2') (.inr (.inr (.inr (.inl ⟨rfl, rfl⟩)))) (hK _ _ (Below.refl _ _) ⟨fun _ => rfl, fun h => by cases h⟩)
    · have e := (Option.some.inj hoo).symm
      have eg := (Option.some.inj hgg).symm
      obtain ⟨v18, x18, s18⟩ := dep 18 (hdep (19, 18) (by decide))
      obtain ⟨v17, x17, s17⟩ := dep 17 (hdep (19, 17) (by decide))
      obtain hq | hq : qy = true ∨ qy = false := by cases qy <;> simp
      · have hwn : Region.wanted o (yielded ops a.tmps) = false := wanted_some eg (yields_some (b := true) (hds 17 36 rfl) (by rw [← hq, ← (show v17 = _ from s17)]; exact x17))
        rw [hwn, if_neg (by simp)]
        exact hK _ _ (Below.refl _ _) ⟨fun h => (by rw [hq] at h; cases h), fun h => (by cases h)⟩
      · have hwn : Region.wanted o (yielded ops a.tmps) = true := wanted_some eg (yields_some (b := false) (hds 17 36 rfl) (by rw [← hq, ← (show v17 = _ from s17)]; exact x17))
        have y18 : a.tmps[37]?.getD undef = .pointer (some ⟨g, 8, none⟩) := ev_some (by rw [← (show v18 = _ from s18 hq)]; exact x18)
        rw [if_pos hwn]
        exact sl_loadS 37 g 8 ryA ryl ryc e y18 (ck 8 _ tW.c8) (hK _ _ (Below.refl _ _) ⟨fun _ => rfl, fun h => by cases h⟩)
    · have e := (Option.some.inj hoo).symm
      have eg := (Option.some.inj hgg).symm
      obtain ⟨v19, x19, s19⟩ := dep 19 (hdep (20, 19) (by decide))
      obtain ⟨v17, x17, s17⟩ := dep 17 (hdep (20, 17) (by decide))
      obtain hq | hq : qy = true ∨ qy = false := by cases qy <;> simp
      · have hwn : Region.wanted o (yielded ops a.tmps) = false := wanted_some eg (yields_some (b := true) (hds 17 36 rfl) (by rw [← hq, ← (show v17 = _ from s17)]; exact x17))
        rw [hwn, if_neg (by simp)]
        exact hK _ _ (Below.refl _ _) ⟨fun h => (by rw [hq] at h; cases h), fun h => (by cases h)⟩
      · have hwn : Region.wanted o (yielded ops a.tmps) = true := wanted_some eg (yields_some (b := false) (hds 17 36 rfl) (by rw [← hq, ← (show v17 = _ from s17)]; exact x17))
        have y19 : a.tmps[38]?.getD undef = .slice ryA ryl ryc := ev_some (by rw [← (show v19 = _ from s19 hq)]; exact x19)
        rw [if_pos hwn]
        exact sl_len 38 ryA ryl ryc e y19 (hK _ _ (Below.refl _ _) ⟨fun _ => rfl, fun h => by cases h⟩)
    · have e := (Option.some.inj hoo).symm
      have eg := (Option.some.inj hgg).symm
      obtain ⟨v20, x20, s20⟩ := dep 20 (hdep (21, 20) (by decide))
      obtain ⟨v17, x17, s17⟩ := dep 17 (hdep (21, 17) (by decide))
      obtain hq | hq : qy = true ∨ qy = false := by cases qy <;> simp
      · have hwn : Region.wanted o (yielded ops a.tmps) = false := wanted_some eg (yields_some (b := true) (hds 17 36 rfl) (by rw [← hq, ← (show v17 = _ from s17)]; exact x17))
        rw [hwn, if_neg (by simp)]
        exact hK _ _ (Below.refl _ _) ⟨fun h => (by rw [hq] at h; cases h), fun h => (by cases h)⟩
      · have hwn : Region.wanted o (yielded ops a.tmps) = true := wanted_some eg (yields_some (b := false) (hds 17 36 rfl) (by rw [← hq, ← (show v17 = _ from s17)]; exact x17))
        have y20 : a.tmps[39]?.getD undef = .int .i64 (ryl : Nat) := ev_some (by rw [← (show v20 = _ from s20 hq)]; exact x20)
        rw [if_pos hwn]
        exact sl_gtr 39 ryl e y20 (hK _ _ (Below.refl _ _) ⟨fun _ => rfl, fun h => by cases h⟩)
    · have e := (Option.some.inj hoo).symm
      have eg := (Option.some.inj hgg).symm
      obtain ⟨v17, x17, s17⟩ := dep 17 (hdep (22, 17) (by decide))
      obtain ⟨v21, x21, s21⟩ := dep 21 (hdep (22, 21) (by decide))
      rw [if_pos (wanted_none eg)]
      obtain hq | hq : qy = true ∨ qy = false := by cases qy <;> simp
      · have y17 : a.tmps[36]?.getD undef = .bool true := ev_some (by rw [← hq, ← (show v17 = _ from s17)]; exact x17)
        refine sl_pick1 36 40 e y17 (hK _ _ (Below.refl _ _) ⟨?_, fun h => by cases h⟩)
        show Value.bool true = _
        rw [hq]; rfl
      · have y17 : a.tmps[36]?.getD undef = .bool false := ev_some (by rw [← hq, ← (show v17 = _ from s17)]; exact x17)
        have y21 : a.tmps[40]?.getD undef = .bool (decide (0 < ryl)) := ev_some (by rw [← (show v21 = _ from s21 hq)]; exact x21)
        refine sl_pick0 36 40 _ e y17 y21 (hK _ _ (Below.refl _ _) ⟨?_, fun h => by cases h⟩)
        show Value.bool _ = _
        rw [hq]; rfl
    · have e := (Option.some.inj hoo).symm
      have eg := (Option.some.inj hgg).symm
      rw [if_pos (wanted_none eg)]
      exact sl_fa 5 ga 4 e (ev_some t5') (.inr (.inr rfl)) (hK _ _ (Below.refl _ _) ⟨rfl, fun h => by cases h⟩)
    · have e := (Option.some.inj hoo).symm
      have eg := (Option.some.inj hgg).symm
      obtain ⟨v23, x23, s23⟩ := dep 23 (hdep (24, 23) (by decide))
      have y23 : a.tmps[42]?.getD undef = .pointer (some ⟨ga, 4, none⟩) := ev_some (by rw [← (show v23 = _ from s23)]; exact x23)
      rw [if_pos (wanted_none eg)]
      exact sl_loadB 42 ga 4 qe e y23 (ckq _ _ hga qW.c4) (hK _ _ (Below.refl _ _) ⟨rfl, fun h => by cases h⟩)
    · have e := (Option.some.inj hoo).symm
      have eg := (Option.some.inj hgg).symm
      obtain ⟨v24, x24, s24⟩ := dep 24 (hdep (25, 24) (by decide))
      have y24 : a.tmps[43]?.getD undef = .bool qe := ev_some (by rw [← (show v24 = _ from s24)]; exact x24)
      rw [if_pos (wanted_none eg)]
      exact sl_moveB 43 qe e y24 (hK _ _ (Below.refl _ _) ⟨rfl, fun h => by cases h⟩)
    · have e := (Option.some.inj hoo).symm
      have eg := (Option.some.inj hgg).symm
      obtain ⟨v25, x25, s25⟩ := dep 25 (hdep (26, 25) (by decide))
      obtain hq | hq : qe = true ∨ qe = false := by cases qe <;> simp
      · have hwn : Region.wanted o (yielded ops a.tmps) = false := wanted_some eg (yields_some (b := true) (hds 25 44 rfl) (by rw [← hq, ← (show v25 = _ from s25)]; exact x25))
        rw [hwn, if_neg (by simp)]
        exact hK _ _ (Below.refl _ _) ⟨fun h => (by rw [hq] at h; cases h), fun h => (by cases h)⟩
      · have hwn : Region.wanted o (yielded ops a.tmps) = true := wanted_some eg (yields_some (b := false) (hds 25 44 rfl) (by rw [← hq, ← (show v25 = _ from s25)]; exact x25))
        rw [if_pos hwn]
        exact sl_fs 2 g 5 9 e (ev_some t2') (.inr (.inr (.inr (.inr ⟨rfl, rfl⟩)))) (hK _ _ (Below.refl _ _) ⟨fun _ => rfl, fun h => by cases h⟩)
    · have e := (Option.some.inj hoo).symm
      have eg := (Option.some.inj hgg).symm
      obtain ⟨v26, x26, s26⟩ := dep 26 (hdep (27, 26) (by decide))
      obtain ⟨v25, x25, s25⟩ := dep 25 (hdep (27, 25) (by decide))
      obtain hq | hq : qe = true ∨ qe = false := by cases qe <;> simp
      · have hwn : Region.wanted o (yielded ops a.tmps) = false := wanted_some eg (yields_some (b := true) (hds 25 44 rfl) (by rw [← hq, ← (show v25 = _ from s25)]; exact x25))
        rw [hwn, if_neg (by simp)]
        exact hK _ _ (Below.refl _ _) ⟨fun h => (by rw [hq] at h; cases h), fun h => (by cases h)⟩
      · have hwn : Region.wanted o (yielded ops a.tmps) = true := wanted_some eg (yields_some (b := false) (hds 25 44 rfl) (by rw [← hq, ← (show v25 = _ from s25)]; exact x25))
        have y26 : a.tmps[45]?.getD undef = .pointer (some ⟨g, 9, none⟩) := ev_some (by rw [← (show v26 = _ from s26 hq)]; exact x26)
        rw [if_pos hwn]
        exact sl_loadS 45 g 9 reA rel r9c e y26 (ck 9 _ tW.c9) (hK _ _ (Below.refl _ _) ⟨fun _ => rfl, fun h => by cases h⟩)
    · have e := (Option.some.inj hoo).symm
      have eg := (Option.some.inj hgg).symm
      obtain ⟨v27, x27, s27⟩ := dep 27 (hdep (28, 27) (by decide))
      obtain ⟨v25, x25, s25⟩ := dep 25 (hdep (28, 25) (by decide))
      obtain hq | hq : qe = true ∨ qe = false := by cases qe <;> simp
      · have hwn : Region.wanted o (yielded ops a.tmps) = false := wanted_some eg (yields_some (b := true) (hds 25 44 rfl) (by rw [← hq, ← (show v25 = _ from s25)]; exact x25))
        rw [hwn, if_neg (by simp)]
        exact hK _ _ (Below.refl _ _) ⟨fun h => (by rw [hq] at h; cases h), fun h => (by cases h)⟩
      · have hwn : Region.wanted o (yielded ops a.tmps) = true := wanted_some eg (yields_some (b := false) (hds 25 44 rfl) (by rw [← hq, ← (show v25 = _ from s25)]; exact x25))
        have y27 : a.tmps[46]?.getD undef = .slice reA rel r9c := ev_some (by rw [← (show v27 = _ from s27 hq)]; exact x27)
        rw [if_pos hwn]
        exact sl_len 46 reA rel r9c e y27 (hK _ _ (Below.refl _ _) ⟨fun _ => rfl, fun h => by cases h⟩)
    · have e := (Option.some.inj hoo).symm
      have eg := (Option.some.inj hgg).symm
      obtain ⟨v28, x28, s28⟩ := dep 28 (hdep (29, 28) (by decide))
      obtain ⟨v25, x25, s25⟩ := dep 25 (hdep (29, 25) (by decide))
      obtain hq | hq : qe = true ∨ qe = false := by cases qe <;> simp
      · have hwn : Region.wanted o (yielded ops a.tmps) = false := wanted_some eg (yields_some (b := true) (hds 25 44 rfl) (by rw [← hq, ← (show v25 = _ from s25)]; exact x25))
        rw [hwn, if_neg (by simp)]
        exact hK _ _ (Below.refl _ _) ⟨fun h => (by rw [hq] at h; cases h), fun h => (by cases h)⟩
      · have hwn : Region.wanted o (yielded ops a.tmps) = true := wanted_some eg (yields_some (b := false) (hds 25 44 rfl) (by rw [← hq, ← (show v25 = _ from s25)]; exact x25))
        have y28 : a.tmps[47]?.getD undef = .int .i64 (rel : Nat) := ev_some (by rw [← (show v28 = _ from s28 hq)]; exact x28)
        rw [if_pos hwn]
        exact sl_gtr 47 rel e y28 (hK _ _ (Below.refl _ _) ⟨fun _ => rfl, fun h => by cases h⟩)
    · have e := (Option.some.inj hoo).symm
      have eg := (Option.some.inj hgg).symm
      obtain ⟨v25, x25, s25⟩ := dep 25 (hdep (30, 25) (by decide))
      obtain ⟨v29, x29, s29⟩ := dep 29 (hdep (30, 29) (by decide))
      rw [if_pos (wanted_none eg)]
      obtain hq | hq : qe = true ∨ qe = false := by cases qe <;> simp
      · have y25 : a.tmps[44]?.getD undef = .bool true := ev_some (by rw [← hq, ← (show v25 = _ from s25)]; exact x25)
        refine sl_pick1 44 48 e y25 (hK _ _ (Below.refl _ _) ⟨?_, fun h => by cases h⟩)
        show Value.bool true = _
        rw [hq]; rfl
      · have y25 : a.tmps[44]?.getD undef = .bool false := ev_some (by rw [← hq, ← (show v25 = _ from s25)]; exact x25)
        have y29 : a.tmps[48]?.getD undef = .bool (decide (0 < rel)) := ev_some (by rw [← (show v29 = _ from s29 hq)]; exact x29)
        refine sl_pick0 44 48 _ e y25 y29 (hK _ _ (Below.refl _ _) ⟨?_, fun h => by cases h⟩)
        show Value.bool _ = _
        rw [hq]; rfl
    · have e := (Option.some.inj hoo).symm
      have eg := (Option.some.inj hgg).symm
      obtain ⟨v6, x6, s6⟩ := dep 6 (hdep (31, 6) (by decide))
      obtain ⟨v10, x10, s10⟩ := dep 10 (hdep (31, 10) (by decide))
      obtain ⟨v14, x14, s14⟩ := dep 14 (hdep (31, 14) (by decide))
      obtain ⟨v22, x22, s22⟩ := dep 22 (hdep (31, 22) (by decide))
      obtain ⟨v30, x30, s30⟩ := dep 30 (hdep (31, 30) (by decide))
      have y6 : a.tmps[25]?.getD undef = .bool (qto || rt != 0) := ev_some (by rw [← (show v6 = _ from s6)]; exact x6)
      have y10 : a.tmps[29]?.getD undef = .bool (!na) := ev_some (by rw [← (show v10 = _ from s10)]; exact x10)
      have y14 : a.tmps[33]?.getD undef = .bool (!nb) := ev_some (by rw [← (show v14 = _ from s14)]; exact x14)
      have y22 : a.tmps[41]?.getD undef = .bool (qy || decide (0 < ryl)) := ev_some (by rw [← (show v22 = _ from s22)]; exact x22)
      have y30 : a.tmps[49]?.getD undef = .bool (qe || decide (0 < rel)) := ev_some (by rw [← (show v30 = _ from s30)]; exact x30)
      rw [if_pos (wanted_none eg)]
      exact sl_build (qto || rt != 0) (!na) (!nb) (qy || decide (0 < ryl)) (qe || decide (0 < rel)) e y6 y10 y14 y22 y30 (hK _ _ (Below.refl _ _) ⟨rfl, fun h => by cases h⟩)
    · have e := (Option.some.inj hoo).symm
      have eg := (Option.some.inj hgg).symm
      rw [if_pos (wanted_none eg)]
      exact sl_alloc e (hK _ _ ((Below.refl _ _).alloc (Nat.le_refl _) _) ⟨trivial, fun _ => ⟨_, rfl, hbl.size, heap_alloc_new w _⟩⟩)
  · intro o us w ho hu hbl hS
    have e := (Option.some.inj (hop 33 o ho)).symm
    rw [hl] at hu hS
    obtain ⟨_, h32⟩ := hS 32 (by omega)
    obtain ⟨g', e1, e2, e3⟩ := h32 rfl
    have h31 : us.getD 31 undef = .agg #[.bool (qto || rt != 0), .bool (!na), .bool (!nb), .bool (qy || decide (0 < ryl)), .bool (qe || decide (0 < rel))] := (hS 31 (by omega)).1
    have x6 := putAll_at T shDs us 32 (by omega) (by omega) hnd (hlt _ (List.getElem_mem _))
    have x50 := putAll_at T shDs us 31 (by omega) (by omega) hnd (hlt _ (List.getElem_mem _))
    have y6 : (putAll T shDs us)[6]?.getD undef = .pointer (some ⟨g', 0, none⟩) := by
      have : (putAll T shDs us)[6]? = us[32]? := x6
      rw [this, ← List.getD_eq_getElem?_getD]
      exact e1
    have y50 : (putAll T shDs us)[50]?.getD undef = .agg #[.bool (qto || rt != 0), .bool (!na), .bool (!nb), .bool (qy || decide (0 < ryl)), .bool (qe || decide (0 < rel))] := by
      have : (putAll T shDs us)[50]? = us[31]? := x50
      rw [this, ← List.getD_eq_getElem?_getD]
      exact h31
    have hlw := (Array.getElem?_eq_some_iff.1 e3).1
    have h9 : (ops.toList.map (·.dst))[shDs.length]? = some o.dst := by rw [List.getElem?_map, Array.getElem?_toList, ho]; rfl
    rw [hdsts] at h9
    have hdn : o.dst = none := (Option.some.inj h9).symm
    have r0 := heap_set_same w g' 0 (.bool (qto || rt != 0)) _ _ e3
    have r1 := heap_set_same _ g' 1 (.bool (!na)) _ _ r0
    have r2 := heap_set_same _ g' 2 (.bool (!nb)) _ _ r1
    have r3 := heap_set_same _ g' 3 (.bool (qy || decide (0 < ryl))) _ _ r2
    have r4 := heap_set_same _ g' 4 (.bool (qe || decide (0 < rel))) _ _ r3
    refine sl_store g' _ _ _ _ _ e y6 y50 e3 ?_
    rw [hdn]
    refine hQ us _ g' hu e1 e2 ?_ ?_ ?_
    · simpa using hlw
    · exact ((((hbl.setCell (p := ⟨g', 0, none⟩) e2 _).setCell (p := ⟨g', 1, none⟩) e2 _).setCell (p := ⟨g', 2, none⟩) e2 _).setCell (p := ⟨g', 3, none⟩) e2 _).setCell (p := ⟨g', 4, none⟩) e2 _
    · exact ⟨cell_of_row5 r4 0, cell_of_row5 r4 1, cell_of_row5 r4 2, cell_of_row5 r4 3, cell_of_row5 r4 4⟩
end Go.Proofs.YtnkdaehmdcpafaaDoor
