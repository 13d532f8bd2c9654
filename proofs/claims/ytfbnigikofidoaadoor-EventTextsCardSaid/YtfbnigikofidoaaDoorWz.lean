/-
  FOR seesawref12.May: operations, one by one; its region 3, each of its ten ways out. Conditions: as they stand.
-/
import Derived.Test.YtfbnigikofidoaaDoorWy
import Derived.Test.YtfbnigikofidoaaDoorRw
import Derived.Test.YtfbnigikofidoaaDoorWg
import Derived.Test.YtfbnigikofidoaaDoorWl
namespace Go.Proofs.YtfbnigikofidoaaDoor
set_option maxRecDepth 100000
open Go.RowKit
set_option linter.unusedVariables false
section
variable {a : Act} {w : World} {K : Act → World → Prop} {Q : Exit → Act → World → Prop} {o : Oper}
theorem v_field1 (x : Nat) {g : Nat} (ho : o.op = .fieldAddr 23 (.tmp x) 1) (hx : a.tmps[x]?.getD undef = .pointer (some ⟨g, 0, none⟩)) (hK : K (a.put o.dst (.pointer (some ⟨g, 1, none⟩))) w) : Oper.wp Tryd.prog o a w K Q := by
  obtain ⟨dst, op, type, pos, after, guard⟩ := o
  have ho' : op = _ := ho
  subst ho'
  clear ho
  go_simp
  exact hK
theorem v_field2 (x : Nat) {g : Nat} (ho : o.op = .fieldAddr 23 (.tmp x) 2) (hx : a.tmps[x]?.getD undef = .pointer (some ⟨g, 0, none⟩)) (hK : K (a.put o.dst (.pointer (some ⟨g, 2, none⟩))) w) : Oper.wp Tryd.prog o a w K Q := by
  obtain ⟨dst, op, type, pos, after, guard⟩ := o
  have ho' : op = _ := ho
  subst ho'
  clear ho
  go_simp
  exact hK
theorem v_field3 (x : Nat) {g : Nat} (ho : o.op = .fieldAddr 23 (.tmp x) 3) (hx : a.tmps[x]?.getD undef = .pointer (some ⟨g, 0, none⟩)) (hK : K (a.put o.dst (.pointer (some ⟨g, 3, none⟩))) w) : Oper.wp Tryd.prog o a w K Q := by
  obtain ⟨dst, op, type, pos, after, guard⟩ := o
  have ho' : op = _ := ho
  subst ho'
  clear ho
  go_simp
  exact hK
theorem v_field4 (x : Nat) {g : Nat} (ho : o.op = .fieldAddr 23 (.tmp x) 4) (hx : a.tmps[x]?.getD undef = .pointer (some ⟨g, 0, none⟩)) (hK : K (a.put o.dst (.pointer (some ⟨g, 4, none⟩))) w) : Oper.wp Tryd.prog o a w K Q := by
  obtain ⟨dst, op, type, pos, after, guard⟩ := o
  have ho' : op = _ := ho
  subst ho'
  clear ho
  go_simp
  exact hK
theorem v_eqlsc (x : Nat) {n : ByteArray} {r : Bool} (ho : o.op = .binOp .eql 9 (.tmp x) (.const (.string ⟨#[]⟩)) 9) (hx : a.tmps[x]?.getD undef = .string n) (hr : n.toList.isEmpty = r) (hK : K (a.put o.dst (.bool r)) w) : Oper.wp Tryd.prog o a w K Q := by
  obtain ⟨dst, op, type, pos, after, guard⟩ := o
  have ho' : op = _ := ho
  subst ho'
  clear ho
  subst hr
  go_simp
  exact hK
theorem v_lssc (x : Nat) {n c : Int} {r : Bool} (ho : o.op = .binOp .lss 3 (.tmp x) (.const (.int .i64 c)) 3) (hx : a.tmps[x]?.getD undef = .int .i64 n) (hr : decide (n < c) = r) (hK : K (a.put o.dst (.bool r)) w) : Oper.wp Tryd.prog o a w K Q := by
  obtain ⟨dst, op, type, pos, after, guard⟩ := o
  have ho' : op = _ := ho
  subst ho'
  clear ho
  subst hr
  go_simp
  exact hK
theorem v_geqc (x : Nat) {n c : Int} {r : Bool} (ho : o.op = .binOp .geq 3 (.tmp x) (.const (.int .i64 c)) 3) (hx : a.tmps[x]?.getD undef = .int .i64 n) (hr : decide (c ≤ n) = r) (hK : K (a.put o.dst (.bool r)) w) : Oper.wp Tryd.prog o a w K Q := by
  obtain ⟨dst, op, type, pos, after, guard⟩ := o
  have ho' : op = _ := ho
  subst ho'
  clear ho
  subst hr
  go_simp
  exact hK
theorem v_gtrc (x : Nat) {n c : Int} {r : Bool} (ho : o.op = .binOp .gtr 3 (.tmp x) (.const (.int .i64 c)) 3) (hx : a.tmps[x]?.getD undef = .int .i64 n) (hr : decide (c < n) = r) (hK : K (a.put o.dst (.bool r)) w) : Oper.wp Tryd.prog o a w K Q := by
  obtain ⟨dst, op, type, pos, after, guard⟩ := o
  have ho' : op = _ := ho
  subst ho'
  clear ho
  subst hr
  go_simp
  exact hK
theorem v_geq (x y : Nat) {n m : Int} {r : Bool} (ho : o.op = .binOp .geq 3 (.tmp x) (.tmp y) 3) (hx : a.tmps[x]?.getD undef = .int .i64 n) (hy : a.tmps[y]?.getD undef = .int .i64 m) (hr : decide (m ≤ n) = r) (hK : K (a.put o.dst (.bool r)) w) : Oper.wp Tryd.prog o a w K Q := by
  obtain ⟨dst, op, type, pos, after, guard⟩ := o
  have ho' : op = _ := ho
  subst ho'
  clear ho
  subst hr
  go_simp
  exact hK
theorem v_neqE (x y : Nat) {a0 a1 a2 a3 a4 a5 a6 b0 b1 b2 b3 b4 b5 b6 : Int} {r : Bool} (ho : o.op = .binOp .neq 23 (.tmp x) (.tmp y) 23) (hx : a.tmps[x]?.getD undef = .agg #[.int .u8 a0, .int .i64 a1, .int .i64 a2, .int .i64 a3, .int .i64 a4, .int .i64 a5, .int .u8 a6]) (hy : a.tmps[y]?.getD undef = .agg #[.int .u8 b0, .int .i64 b1, .int .i64 b2, .int .i64 b3, .int .i64 b4, .int .i64 b5, .int .u8 b6]) (hr : (!(a0 == b0 && (a1 == b1 && (a2 == b2 && (a3 == b3 && (a4 == b4 && (a5 == b5 && a6 == b6))))))) = r) (hK : K (a.put o.dst (.bool r)) w) : Oper.wp Tryd.prog o a w K Q := by
  obtain ⟨dst, op, type, pos, after, guard⟩ := o
  have ho' : op = _ := ho
  subst ho'
  clear ho
  subst hr
  by_cases h0 : a0 = b0
  · by_cases h1 : a1 = b1
    · by_cases h2 : a2 = b2
      · by_cases h3 : a3 = b3
        · by_cases h4 : a4 = b4
          · by_cases h5 : a5 = b5
            · by_cases h6 : a6 = b6
              · subst h0 h1 h2 h3 h4 h5 h6
                simp only [beq_self_eq_true, Bool.and_self, Bool.not_true] at hK
                go_simp
                exact hK
              · subst h0 h1 h2 h3 h4 h5
                have q : (a6 == b6) = false := beq_eq_false_iff_ne.2 h6
                simp only [q, beq_self_eq_true, Bool.and_false, Bool.not_false] at hK
                go_simp
                exact hK
            · subst h0 h1 h2 h3 h4
              have q : (a5 == b5) = false := beq_eq_false_iff_ne.2 h5
              simp only [q, beq_self_eq_true, Bool.false_and, Bool.and_false, Bool.not_false] at hK
              go_simp
              exact hK
          · subst h0 h1 h2 h3
            have q : (a4 == b4) = false := beq_eq_false_iff_ne.2 h4
            simp only [q, beq_self_eq_true, Bool.false_and, Bool.and_false, Bool.not_false] at hK
            go_simp
            exact hK
        · subst h0 h1 h2
          have q : (a3 == b3) = false := beq_eq_false_iff_ne.2 h3
          simp only [q, beq_self_eq_true, Bool.false_and, Bool.and_false, Bool.not_false] at hK
          go_simp
          exact hK
      · subst h0 h1
        have q : (a2 == b2) = false := beq_eq_false_iff_ne.2 h2
        simp only [q, beq_self_eq_true, Bool.false_and, Bool.and_false, Bool.not_false] at hK
        go_simp
        exact hK
    · subst h0
      have q : (a1 == b1) = false := beq_eq_false_iff_ne.2 h1
      simp only [q, beq_self_eq_true, Bool.false_and, Bool.and_false, Bool.not_false] at hK
      go_simp
      exact hK
  · have q : (a0 == b0) = false := beq_eq_false_iff_ne.2 h0
    simp only [q, Bool.false_and, Bool.not_false] at hK
    go_simp
    exact hK
theorem v_bare (x : Nat) {u : Value} (ho : o.op = .call { callee := .value (.func 39), args := #[.tmp x], argTypes := #[23] }) {v0 : Value} (h0 : a.tmps[x]?.getD undef = v0) (hc : Calls Tryd.prog 39 #[v0] w fun r w' => r = .returned u ∧ Below w.heap.size w w') (hK : ∀ w', Below w.heap.size w w' → K (a.put o.dst u) w') : Oper.wp Tryd.prog o a w K Q := by
  obtain ⟨dst, op, type, pos, after, guard⟩ := o
  have ho' : op = _ := ho
  subst ho'
  clear ho
  have h1 := Tryd.func39
  have HC := Lib.hid hc
  clear hc
  go_simp
  refine HC.out.mono ?_
  rintro r w' ⟨rfl, hb⟩
  exact hK w' hb
end
noncomputable def regR3_0_ops : Array Oper := opsW Tryd.f16 3
def regR3_0_ds : List Nat := [32, 33, 34, 35, 36, 37, 38, 39, 40, 41, 42, 43, 44, 45, 46, 47, 48, 49, 50, 51, 52, 53, 54, 55, 56, 57, 58, 59, 60, 61, 62, 63, 64, 65, 66, 67, 68, 69, 70, 71, 72, 73, 74, 75, 76, 77]
set_option maxRecDepth 100000 in
set_option maxHeartbeats 4000000 in
theorem regR3_0 {id : Nat} {ops : Array Oper} (hops : ops = regR3_0_ops) (T0 : Array Value) (hsz : 78 ≤ T0.size) (W : World) (g : Nat) (kn : Nat) (kd th tx pl v x why T b0 b1 b2 b3 b4 b5 b6 : Int) (hk : kd = kn) (hg : ∀ wx, Below W.heap.size W wx → wx.heap[g]? = some (.cells #[.int .u8 kd, .int .i64 th, .int .i64 tx, .int .i64 pl, .int .i64 v, .int .i64 x, .int .u8 why] 23 (0, 0))) (H1 : ∀ wx, Below W.heap.size W wx → Calls Tryd.prog 18 #[.int .u8 kd] wx fun r w' => r = .returned (.string (bsW (nmL kn))) ∧ Below wx.heap.size wx w') (H2 : ∀ wx, Below W.heap.size W wx → Calls Tryd.prog 39 #[.agg #[.int .u8 kd, .int .i64 th, .int .i64 tx, .int .i64 pl, .int .i64 v, .int .i64 x, .int .u8 why]] wx fun r w' => r = .returned (.agg #[.int .u8 b0, .int .i64 b1, .int .i64 b2, .int .i64 b3, .int .i64 b4, .int .i64 b5, .int .u8 b6]) ∧ Below wx.heap.size wx w') (c1 : (bsW (nmL kn)).toList.isEmpty = false) (c2 : decide (th < 0) = false) (c3 : decide (T ≤ th) = false) (c4 : (!(b0 == kd && (b1 == th && (b2 == tx && (b3 == pl && (b4 == v && (b5 == x && b6 == why))))))) = false) (c5 : decide (tx < 0) = false) (c6 : decide (6 ≤ tx) = false) (c7 : decide (v < 0) = false) (c8 : decide (1099511627776 < v) = false) (c9 : decide (pl < 0) = false) (h1 : T0[1]? = some (.int .i64 T)) (h4 : T0[4]? = some (.pointer (some ⟨g, 0, none⟩))) {Q : Exit → Act → World → Prop}
    (hend : ∀ (us : List Value) (w : World), us.length = 46 → Below W.heap.size W w → us.getD 45 undef = .bool false → Q .normal ⟨putAll T0 regR3_0_ds us, []⟩ w) : (Code.region id ops true).wp Tryd.prog Q ⟨T0, []⟩ W := by
  subst hops
  have hos : regR3_0_ops.size = 46 := by kernel_rfl
  have hga : (List.range 46).all (fun i => match regR3_0_ops[i]? with | some o => o.guard == ([none, none, none, none, none, some (4, false), some (4, false), some (4, false), none, none, some (9, false), some (9, false), some (9, false), some (9, false), none, none, some (15, false), some (15, false), some (15, false), some (15, false), none, none, some (21, false), some (21, false), some (21, false), none, none, some (26, false), some (26, false), some (26, false), none, none, some (31, false), some (31, false), some (31, false), none, none, some (36, false), some (36, false), some (36, false), none, none, some (41, false), some (41, false), some (41, false), none] : List (Option (Nat × Bool))).getD i none | none => false) = true := by kernel_rfl
  refine wp_region_vals3 ([.pointer (some ⟨g, 0, none⟩), .int .u8 kd, .string (bsW (nmL kn)), .bool false, .bool false, .pointer (some ⟨g, 1, none⟩), .int .i64 th, .bool false, .bool false, .bool false, .pointer (some ⟨g, 1, none⟩), .int .i64 th, .int .i64 T, .bool false, .bool false, .bool false, .agg #[.int .u8 kd, .int .i64 th, .int .i64 tx, .int .i64 pl, .int .i64 v, .int .i64 x, .int .u8 why], .agg #[.int .u8 b0, .int .i64 b1, .int .i64 b2, .int .i64 b3, .int .i64 b4, .int .i64 b5, .int .u8 b6], .agg #[.int .u8 kd, .int .i64 th, .int .i64 tx, .int .i64 pl, .int .i64 v, .int .i64 x, .int .u8 why], .bool false, .bool false, .bool false, .pointer (some ⟨g, 2, none⟩), .int .i64 tx, .bool false, .bool false, .bool false, .pointer (some ⟨g, 2, none⟩), .int .i64 tx, .bool false, .bool false, .bool false, .pointer (some ⟨g, 4, none⟩), .int .i64 v, .bool false, .bool false, .bool false, .pointer (some ⟨g, 4, none⟩), .int .i64 v, .bool false, .bool false, .bool false, .pointer (some ⟨g, 3, none⟩), .int .i64 pl, .bool false, .bool false] : List Value) [true, true, true, true, true, true, true, true, true, true, true, true, true, true, true, true, true, true, true, true, true, true, true, true, true, true, true, true, true, true, true, true, true, true, true, true, true, true, true, true, true, true, true, true, true, true] regR3_0_ds W T0 (by decide) (fun x hx => ?_) (by kernel_rfl) (by kernel_rfl) (fun i o j want ho hg => ?_) ?_ ?_
  · have hall : (regR3_0_ds.all fun d => decide (d < 78)) = true := by decide
    have := List.all_eq_true.1 hall x hx
    simp only [decide_eq_true_eq] at this
    omega
  · have hi : i < 46 := by rw [← hos]; exact (Array.getElem?_eq_some_iff.1 ho).1
    have h1 := List.all_eq_true.1 hga i (by simpa using hi)
    rw [ho] at h1
    simp only [hg, beq_iff_eq] at h1
    match i, hi with
    | 0, _ => cases h1
    | 1, _ => cases h1
    | 2, _ => cases h1
    | 3, _ => cases h1
    | 4, _ => cases h1
    | 5, _ => obtain ⟨rfl, rfl⟩ := Prod.mk.inj (Option.some.inj h1); rfl
    | 6, _ => obtain ⟨rfl, rfl⟩ := Prod.mk.inj (Option.some.inj h1); rfl
    | 7, _ => obtain ⟨rfl, rfl⟩ := Prod.mk.inj (Option.some.inj h1); rfl
    | 8, _ => cases h1
    | 9, _ => cases h1
    | 10, _ => obtain ⟨rfl, rfl⟩ := Prod.mk.inj (Option.some.inj h1); rfl
    | 11, _ => obtain ⟨rfl, rfl⟩ := Prod.mk.inj (Option.some.inj h1); rfl
    | 12, _ => obtain ⟨rfl, rfl⟩ := Prod.mk.inj (Option.some.inj h1); rfl
    | 13, _ => obtain ⟨rfl, rfl⟩ := Prod.mk.inj (Option.some.inj h1); rfl
    | 14, _ => cases h1
    | 15, _ => cases h1
    | 16, _ => obtain ⟨rfl, rfl⟩ := Prod.mk.inj (Option.some.inj h1); rfl
    | 17, _ => obtain ⟨rfl, rfl⟩ := Prod.mk.inj (Option.some.inj h1); rfl
    | 18, _ => obtain ⟨rfl, rfl⟩ := Prod.mk.inj (Option.some.inj h1); rfl
    | 19, _ => obtain ⟨rfl, rfl⟩ := Prod.mk.inj (Option.some.inj h1); rfl
    | 20, _ => cases h1
    | 21, _ => cases h1
    | 22, _ => obtain ⟨rfl, rfl⟩ := Prod.mk.inj (Option.some.inj h1); rfl
    | 23, _ => obtain ⟨rfl, rfl⟩ := Prod.mk.inj (Option.some.inj h1); rfl
    | 24, _ => obtain ⟨rfl, rfl⟩ := Prod.mk.inj (Option.some.inj h1); rfl
    | 25, _ => cases h1
    | 26, _ => cases h1
    | 27, _ => obtain ⟨rfl, rfl⟩ := Prod.mk.inj (Option.some.inj h1); rfl
    | 28, _ => obtain ⟨rfl, rfl⟩ := Prod.mk.inj (Option.some.inj h1); rfl
    | 29, _ => obtain ⟨rfl, rfl⟩ := Prod.mk.inj (Option.some.inj h1); rfl
    | 30, _ => cases h1
    | 31, _ => cases h1
    | 32, _ => obtain ⟨rfl, rfl⟩ := Prod.mk.inj (Option.some.inj h1); rfl
    | 33, _ => obtain ⟨rfl, rfl⟩ := Prod.mk.inj (Option.some.inj h1); rfl
    | 34, _ => obtain ⟨rfl, rfl⟩ := Prod.mk.inj (Option.some.inj h1); rfl
    | 35, _ => cases h1
    | 36, _ => cases h1
    | 37, _ => obtain ⟨rfl, rfl⟩ := Prod.mk.inj (Option.some.inj h1); rfl
    | 38, _ => obtain ⟨rfl, rfl⟩ := Prod.mk.inj (Option.some.inj h1); rfl
    | 39, _ => obtain ⟨rfl, rfl⟩ := Prod.mk.inj (Option.some.inj h1); rfl
    | 40, _ => cases h1
    | 41, _ => cases h1
    | 42, _ => obtain ⟨rfl, rfl⟩ := Prod.mk.inj (Option.some.inj h1); rfl
    | 43, _ => obtain ⟨rfl, rfl⟩ := Prod.mk.inj (Option.some.inj h1); rfl
    | 44, _ => obtain ⟨rfl, rfl⟩ := Prod.mk.inj (Option.some.inj h1); rfl
    | 45, _ => cases h1
    | i + 46, h => exact absurd (show i + 46 < 46 from h) (by omega)
  · intro i o ho hi hon a w hT hU hb K hK
    have hT0 : ∀ t v, t ∉ regR3_0_ds → T0[t]? = some v → a.tmps[t]?.getD undef = v := fun t v ht hv => by rw [hT t ht, hv]; rfl
    match i, hi with
    | 0, _ => exact v_field0 4 (opAtW ho (by kernel_rfl)) (hT0 4 _ (by decide) h4) (hK _ (Below.refl _ _))
    | 1, _ => exact v_loadB 32 (opAtW ho (by kernel_rfl)) (hU 0 (by kernel_rfl) rfl) (cell_of_row w g 0 _ _ _ (hg w hb)) (hK _ (Below.refl _ _))
    | 2, _ => exact v_nameR 33 (opAtW ho (by kernel_rfl)) (hU 1 (by kernel_rfl) rfl) (H1 w hb) (fun w' hb' => hK w' hb')
    | 3, _ => exact v_eqlsc 34 (opAtW ho (by kernel_rfl)) (hU 2 (by kernel_rfl) rfl) (c1) (hK _ (Below.refl _ _))
    | 4, _ => exact v_move 35 (opAtW ho (by kernel_rfl)) (hU 3 (by kernel_rfl) rfl) (hK _ (Below.refl _ _))
    | 5, _ => exact v_field1 4 (opAtW ho (by kernel_rfl)) (hT0 4 _ (by decide) h4) (hK _ (Below.refl _ _))
    | 6, _ => exact s_loadI 37 (opAtW ho (by kernel_rfl)) (hU 5 (by kernel_rfl) rfl) (cell_of_row w g 1 _ _ _ (hg w hb)) (hK _ (Below.refl _ _))
    | 7, _ => exact v_lssc 38 (opAtW ho (by kernel_rfl)) (hU 6 (by kernel_rfl) rfl) (c2) (hK _ (Below.refl _ _))
    | 8, _ => exact v_orF 36 39 (opAtW ho (by kernel_rfl)) (hU 4 (by kernel_rfl) rfl) (hU 7 (by kernel_rfl) rfl) (hK _ (Below.refl _ _))
    | 9, _ => exact v_move 40 (opAtW ho (by kernel_rfl)) (hU 8 (by kernel_rfl) rfl) (hK _ (Below.refl _ _))
    | 10, _ => exact v_field1 4 (opAtW ho (by kernel_rfl)) (hT0 4 _ (by decide) h4) (hK _ (Below.refl _ _))
    | 11, _ => exact s_loadI 42 (opAtW ho (by kernel_rfl)) (hU 10 (by kernel_rfl) rfl) (cell_of_row w g 1 _ _ _ (hg w hb)) (hK _ (Below.refl _ _))
    | 12, _ => exact v_move 1 (opAtW ho (by kernel_rfl)) (hT0 1 _ (by decide) h1) (hK _ (Below.refl _ _))
    | 13, _ => exact v_geq 43 44 (opAtW ho (by kernel_rfl)) (hU 11 (by kernel_rfl) rfl) (hU 12 (by kernel_rfl) rfl) (c3) (hK _ (Below.refl _ _))
    | 14, _ => exact v_orF 41 45 (opAtW ho (by kernel_rfl)) (hU 9 (by kernel_rfl) rfl) (hU 13 (by kernel_rfl) rfl) (hK _ (Below.refl _ _))
    | 15, _ => exact v_move 46 (opAtW ho (by kernel_rfl)) (hU 14 (by kernel_rfl) rfl) (hK _ (Below.refl _ _))
    | 16, _ => exact v_loadE 4 (opAtW ho (by kernel_rfl)) (hT0 4 _ (by decide) h4) (hg w hb) rfl (hK _ (Below.refl _ _))
    | 17, _ => exact v_bare 48 (opAtW ho (by kernel_rfl)) (hU 16 (by kernel_rfl) rfl) (H2 w hb) (fun w' hb' => hK w' hb')
    | 18, _ => exact v_loadE 4 (opAtW ho (by kernel_rfl)) (hT0 4 _ (by decide) h4) (hg w hb) rfl (hK _ (Below.refl _ _))
    | 19, _ => exact v_neqE 49 50 (opAtW ho (by kernel_rfl)) (hU 17 (by kernel_rfl) rfl) (hU 18 (by kernel_rfl) rfl) (c4) (hK _ (Below.refl _ _))
    | 20, _ => exact v_orF 47 51 (opAtW ho (by kernel_rfl)) (hU 15 (by kernel_rfl) rfl) (hU 19 (by kernel_rfl) rfl) (hK _ (Below.refl _ _))
    | 21, _ => exact v_move 52 (opAtW ho (by kernel_rfl)) (hU 20 (by kernel_rfl) rfl) (hK _ (Below.refl _ _))
    | 22, _ => exact v_field2 4 (opAtW ho (by kernel_rfl)) (hT0 4 _ (by decide) h4) (hK _ (Below.refl _ _))
    | 23, _ => exact s_loadI 54 (opAtW ho (by kernel_rfl)) (hU 22 (by kernel_rfl) rfl) (cell_of_row w g 2 _ _ _ (hg w hb)) (hK _ (Below.refl _ _))
    | 24, _ => exact v_lssc 55 (opAtW ho (by kernel_rfl)) (hU 23 (by kernel_rfl) rfl) (c5) (hK _ (Below.refl _ _))
    | 25, _ => exact v_orF 53 56 (opAtW ho (by kernel_rfl)) (hU 21 (by kernel_rfl) rfl) (hU 24 (by kernel_rfl) rfl) (hK _ (Below.refl _ _))
    | 26, _ => exact v_move 57 (opAtW ho (by kernel_rfl)) (hU 25 (by kernel_rfl) rfl) (hK _ (Below.refl _ _))
    | 27, _ => exact v_field2 4 (opAtW ho (by kernel_rfl)) (hT0 4 _ (by decide) h4) (hK _ (Below.refl _ _))
    | 28, _ => exact s_loadI 59 (opAtW ho (by kernel_rfl)) (hU 27 (by kernel_rfl) rfl) (cell_of_row w g 2 _ _ _ (hg w hb)) (hK _ (Below.refl _ _))
    | 29, _ => exact v_geqc 60 (opAtW ho (by kernel_rfl)) (hU 28 (by kernel_rfl) rfl) (c6) (hK _ (Below.refl _ _))
    | 30, _ => exact v_orF 58 61 (opAtW ho (by kernel_rfl)) (hU 26 (by kernel_rfl) rfl) (hU 29 (by kernel_rfl) rfl) (hK _ (Below.refl _ _))
    | 31, _ => exact v_move 62 (opAtW ho (by kernel_rfl)) (hU 30 (by kernel_rfl) rfl) (hK _ (Below.refl _ _))
    | 32, _ => exact v_field4 4 (opAtW ho (by kernel_rfl)) (hT0 4 _ (by decide) h4) (hK _ (Below.refl _ _))
    | 33, _ => exact s_loadI 64 (opAtW ho (by kernel_rfl)) (hU 32 (by kernel_rfl) rfl) (cell_of_row w g 4 _ _ _ (hg w hb)) (hK _ (Below.refl _ _))
    | 34, _ => exact v_lssc 65 (opAtW ho (by kernel_rfl)) (hU 33 (by kernel_rfl) rfl) (c7) (hK _ (Below.refl _ _))
    | 35, _ => exact v_orF 63 66 (opAtW ho (by kernel_rfl)) (hU 31 (by kernel_rfl) rfl) (hU 34 (by kernel_rfl) rfl) (hK _ (Below.refl _ _))
    | 36, _ => exact v_move 67 (opAtW ho (by kernel_rfl)) (hU 35 (by kernel_rfl) rfl) (hK _ (Below.refl _ _))
    | 37, _ => exact v_field4 4 (opAtW ho (by kernel_rfl)) (hT0 4 _ (by decide) h4) (hK _ (Below.refl _ _))
    | 38, _ => exact s_loadI 69 (opAtW ho (by kernel_rfl)) (hU 37 (by kernel_rfl) rfl) (cell_of_row w g 4 _ _ _ (hg w hb)) (hK _ (Below.refl _ _))
    | 39, _ => exact v_gtrc 70 (opAtW ho (by kernel_rfl)) (hU 38 (by kernel_rfl) rfl) (c8) (hK _ (Below.refl _ _))
    | 40, _ => exact v_orF 68 71 (opAtW ho (by kernel_rfl)) (hU 36 (by kernel_rfl) rfl) (hU 39 (by kernel_rfl) rfl) (hK _ (Below.refl _ _))
    | 41, _ => exact v_move 72 (opAtW ho (by kernel_rfl)) (hU 40 (by kernel_rfl) rfl) (hK _ (Below.refl _ _))
    | 42, _ => exact v_field3 4 (opAtW ho (by kernel_rfl)) (hT0 4 _ (by decide) h4) (hK _ (Below.refl _ _))
    | 43, _ => exact s_loadI 74 (opAtW ho (by kernel_rfl)) (hU 42 (by kernel_rfl) rfl) (cell_of_row w g 3 _ _ _ (hg w hb)) (hK _ (Below.refl _ _))
    | 44, _ => exact v_lssc 75 (opAtW ho (by kernel_rfl)) (hU 43 (by kernel_rfl) rfl) (c9) (hK _ (Below.refl _ _))
    | 45, _ => exact v_orF 73 76 (opAtW ho (by kernel_rfl)) (hU 41 (by kernel_rfl) rfl) (hU 44 (by kernel_rfl) rfl) (hK _ (Below.refl _ _))
    | i + 46, h => exact absurd (show i + 46 < 46 from h) (by omega)
  · intro us w hu hb hv
    exact hend us w hu hb (hv 45 (by decide) rfl)
noncomputable def regR3_1_ops : Array Oper := opsW Tryd.f16 3
def regR3_1_ds : List Nat := [32, 33, 34, 35, 36, 37, 38, 39, 40, 41, 42, 43, 44, 45, 46, 47, 48, 49, 50, 51, 52, 53, 54, 55, 56, 57, 58, 59, 60, 61, 62, 63, 64, 65, 66, 67, 68, 69, 70, 71, 72, 73, 74, 75, 76, 77]
set_option maxRecDepth 100000 in
set_option maxHeartbeats 4000000 in
theorem regR3_1 {id : Nat} {ops : Array Oper} (hops : ops = regR3_1_ops) (T0 : Array Value) (hsz : 78 ≤ T0.size) (W : World) (g : Nat) (kn : Nat) (kd th tx pl v x why T b0 b1 b2 b3 b4 b5 b6 : Int) (hk : kd = kn) (hg : ∀ wx, Below W.heap.size W wx → wx.heap[g]? = some (.cells #[.int .u8 kd, .int .i64 th, .int .i64 tx, .int .i64 pl, .int .i64 v, .int .i64 x, .int .u8 why] 23 (0, 0))) (H1 : ∀ wx, Below W.heap.size W wx → Calls Tryd.prog 18 #[.int .u8 kd] wx fun r w' => r = .returned (.string (bsW (nmL kn))) ∧ Below wx.heap.size wx w') (H2 : ∀ wx, Below W.heap.size W wx → Calls Tryd.prog 39 #[.agg #[.int .u8 kd, .int .i64 th, .int .i64 tx, .int .i64 pl, .int .i64 v, .int .i64 x, .int .u8 why]] wx fun r w' => r = .returned (.agg #[.int .u8 b0, .int .i64 b1, .int .i64 b2, .int .i64 b3, .int .i64 b4, .int .i64 b5, .int .u8 b6]) ∧ Below wx.heap.size wx w') (c1 : (bsW (nmL kn)).toList.isEmpty = true) (h1 : T0[1]? = some (.int .i64 T)) (h4 : T0[4]? = some (.pointer (some ⟨g, 0, none⟩))) {Q : Exit → Act → World → Prop}
    (hend : ∀ (us : List Value) (w : World), us.length = 46 → Below W.heap.size W w → us.getD 45 undef = .bool true → Q .normal ⟨putAll T0 regR3_1_ds us, []⟩ w) : (Code.region id ops true).wp Tryd.prog Q ⟨T0, []⟩ W := by
  subst hops
  have hos : regR3_1_ops.size = 46 := by kernel_rfl
  have hga : (List.range 46).all (fun i => match regR3_1_ops[i]? with | some o => o.guard == ([none, none, none, none, none, some (4, false), some (4, false), some (4, false), none, none, some (9, false), some (9, false), some (9, false), some (9, false), none, none, some (15, false), some (15, false), some (15, false), some (15, false), none, none, some (21, false), some (21, false), some (21, false), none, none, some (26, false), some (26, false), some (26, false), none, none, some (31, false), some (31, false), some (31, false), none, none, some (36, false), some (36, false), some (36, false), none, none, some (41, false), some (41, false), some (41, false), none] : List (Option (Nat × Bool))).getD i none | none => false) = true := by kernel_rfl
  refine wp_region_vals3 ([.pointer (some ⟨g, 0, none⟩), .int .u8 kd, .string (bsW (nmL kn)), .bool true, .bool true, undef, undef, undef, .bool true, .bool true, undef, undef, undef, undef, .bool true, .bool true, undef, undef, undef, undef, .bool true, .bool true, undef, undef, undef, .bool true, .bool true, undef, undef, undef, .bool true, .bool true, undef, undef, undef, .bool true, .bool true, undef, undef, undef, .bool true, .bool true, undef, undef, undef, .bool true] : List Value) [true, true, true, true, true, false, false, false, true, true, false, false, false, false, true, true, false, false, false, false, true, true, false, false, false, true, true, false, false, false, true, true, false, false, false, true, true, false, false, false, true, true, false, false, false, true] regR3_1_ds W T0 (by decide) (fun x hx => ?_) (by kernel_rfl) (by kernel_rfl) (fun i o j want ho hg => ?_) ?_ ?_
  · have hall : (regR3_1_ds.all fun d => decide (d < 78)) = true := by decide
    have := List.all_eq_true.1 hall x hx
    simp only [decide_eq_true_eq] at this
    omega
  · have hi : i < 46 := by rw [← hos]; exact (Array.getElem?_eq_some_iff.1 ho).1
    have h1 := List.all_eq_true.1 hga i (by simpa using hi)
    rw [ho] at h1
    simp only [hg, beq_iff_eq] at h1
    match i, hi with
    | 0, _ => cases h1
    | 1, _ => cases h1
    | 2, _ => cases h1
    | 3, _ => cases h1
    | 4, _ => cases h1
    | 5, _ => obtain ⟨rfl, rfl⟩ := Prod.mk.inj (Option.some.inj h1); rfl
    | 6, _ => obtain ⟨rfl, rfl⟩ := Prod.mk.inj (Option.some.inj h1); rfl
    | 7, _ => obtain ⟨rfl, rfl⟩ := Prod.mk.inj (Option.some.inj h1); rfl
    | 8, _ => cases h1
    | 9, _ => cases h1
    | 10, _ => obtain ⟨rfl, rfl⟩ := Prod.mk.inj (Option.some.inj h1); rfl
    | 11, _ => obtain ⟨rfl, rfl⟩ := Prod.mk.inj (Option.some.inj h1); rfl
    | 12, _ => obtain ⟨rfl, rfl⟩ := Prod.mk.inj (Option.some.inj h1); rfl
    | 13, _ => obtain ⟨rfl, rfl⟩ := Prod.mk.inj (Option.some.inj h1); rfl
    | 14, _ => cases h1
    | 15, _ => cases h1
    | 16, _ => obtain ⟨rfl, rfl⟩ := Prod.mk.inj (Option.some.inj h1); rfl
    | 17, _ => obtain ⟨rfl, rfl⟩ := Prod.mk.inj (Option.some.inj h1); rfl
    | 18, _ => obtain ⟨rfl, rfl⟩ := Prod.mk.inj (Option.some.inj h1); rfl
    | 19, _ => obtain ⟨rfl, rfl⟩ := Prod.mk.inj (Option.some.inj h1); rfl
    | 20, _ => cases h1
    | 21, _ => cases h1
    | 22, _ => obtain ⟨rfl, rfl⟩ := Prod.mk.inj (Option.some.inj h1); rfl
    | 23, _ => obtain ⟨rfl, rfl⟩ := Prod.mk.inj (Option.some.inj h1); rfl
    | 24, _ => obtain ⟨rfl, rfl⟩ := Prod.mk.inj (Option.some.inj h1); rfl
    | 25, _ => cases h1
    | 26, _ => cases h1
    | 27, _ => obtain ⟨rfl, rfl⟩ := Prod.mk.inj (Option.some.inj h1); rfl
    | 28, _ => obtain ⟨rfl, rfl⟩ := Prod.mk.inj (Option.some.inj h1); rfl
    | 29, _ => obtain ⟨rfl, rfl⟩ := Prod.mk.inj (Option.some.inj h1); rfl
    | 30, _ => cases h1
    | 31, _ => cases h1
    | 32, _ => obtain ⟨rfl, rfl⟩ := Prod.mk.inj (Option.some.inj h1); rfl
    | 33, _ => obtain ⟨rfl, rfl⟩ := Prod.mk.inj (Option.some.inj h1); rfl
    | 34, _ => obtain ⟨rfl, rfl⟩ := Prod.mk.inj (Option.some.inj h1); rfl
    | 35, _ => cases h1
    | 36, _ => cases h1
    | 37, _ => obtain ⟨rfl, rfl⟩ := Prod.mk.inj (Option.some.inj h1); rfl
    | 38, _ => obtain ⟨rfl, rfl⟩ := Prod.mk.inj (Option.some.inj h1); rfl
    | 39, _ => obtain ⟨rfl, rfl⟩ := Prod.mk.inj (Option.some.inj h1); rfl
    | 40, _ => cases h1
    | 41, _ => cases h1
    | 42, _ => obtain ⟨rfl, rfl⟩ := Prod.mk.inj (Option.some.inj h1); rfl
    | 43, _ => obtain ⟨rfl, rfl⟩ := Prod.mk.inj (Option.some.inj h1); rfl
    | 44, _ => obtain ⟨rfl, rfl⟩ := Prod.mk.inj (Option.some.inj h1); rfl
    | 45, _ => cases h1
    | i + 46, h => exact absurd (show i + 46 < 46 from h) (by omega)
  · intro i o ho hi hon a w hT hU hb K hK
    have hT0 : ∀ t v, t ∉ regR3_1_ds → T0[t]? = some v → a.tmps[t]?.getD undef = v := fun t v ht hv => by rw [hT t ht, hv]; rfl
    match i, hi with
    | 0, _ => exact v_field0 4 (opAtW ho (by kernel_rfl)) (hT0 4 _ (by decide) h4) (hK _ (Below.refl _ _))
    | 1, _ => exact v_loadB 32 (opAtW ho (by kernel_rfl)) (hU 0 (by kernel_rfl) rfl) (cell_of_row w g 0 _ _ _ (hg w hb)) (hK _ (Below.refl _ _))
    | 2, _ => exact v_nameR 33 (opAtW ho (by kernel_rfl)) (hU 1 (by kernel_rfl) rfl) (H1 w hb) (fun w' hb' => hK w' hb')
    | 3, _ => exact v_eqlsc 34 (opAtW ho (by kernel_rfl)) (hU 2 (by kernel_rfl) rfl) (c1) (hK _ (Below.refl _ _))
    | 4, _ => exact v_move 35 (opAtW ho (by kernel_rfl)) (hU 3 (by kernel_rfl) rfl) (hK _ (Below.refl _ _))
    | 5, _ => exact absurd hon (by decide)
    | 6, _ => exact absurd hon (by decide)
    | 7, _ => exact absurd hon (by decide)
    | 8, _ => exact v_orT 36 39 (opAtW ho (by kernel_rfl)) (hU 4 (by kernel_rfl) rfl) (hK _ (Below.refl _ _))
    | 9, _ => exact v_move 40 (opAtW ho (by kernel_rfl)) (hU 8 (by kernel_rfl) rfl) (hK _ (Below.refl _ _))
    | 10, _ => exact absurd hon (by decide)
    | 11, _ => exact absurd hon (by decide)
    | 12, _ => exact absurd hon (by decide)
    | 13, _ => exact absurd hon (by decide)
    | 14, _ => exact v_orT 41 45 (opAtW ho (by kernel_rfl)) (hU 9 (by kernel_rfl) rfl) (hK _ (Below.refl _ _))
    | 15, _ => exact v_move 46 (opAtW ho (by kernel_rfl)) (hU 14 (by kernel_rfl) rfl) (hK _ (Below.refl _ _))
    | 16, _ => exact absurd hon (by decide)
    | 17, _ => exact absurd hon (by decide)
    | 18, _ => exact absurd hon (by decide)
    | 19, _ => exact absurd hon (by decide)
    | 20, _ => exact v_orT 47 51 (opAtW ho (by kernel_rfl)) (hU 15 (by kernel_rfl) rfl) (hK _ (Below.refl _ _))
    | 21, _ => exact v_move 52 (opAtW ho (by kernel_rfl)) (hU 20 (by kernel_rfl) rfl) (hK _ (Below.refl _ _))
    | 22, _ => exact absurd hon (by decide)
    | 23, _ => exact absurd hon (by decide)
    | 24, _ => exact absurd hon (by decide)
    | 25, _ => exact v_orT 53 56 (opAtW ho (by kernel_rfl)) (hU 21 (by kernel_rfl) rfl) (hK _ (Below.refl _ _))
    | 26, _ => exact v_move 57 (opAtW ho (by kernel_rfl)) (hU 25 (by kernel_rfl) rfl) (hK _ (Below.refl _ _))
    | 27, _ => exact absurd hon (by decide)
    | 28, _ => exact absurd hon (by decide)
    | 29, _ => exact absurd hon (by decide)
    | 30, _ => exact v_orT 58 61 (opAtW ho (by kernel_rfl)) (hU 26 (by kernel_rfl) rfl) (hK _ (Below.refl _ _))
    | 31, _ => exact v_move 62 (opAtW ho (by kernel_rfl)) (hU 30 (by kernel_rfl) rfl) (hK _ (Below.refl _ _))
    | 32, _ => exact absurd hon (by decide)
    | 33, _ => exact absurd hon (by decide)
    | 34, _ => exact absurd hon (by decide)
    | 35, _ => exact v_orT 63 66 (opAtW ho (by kernel_rfl)) (hU 31 (by kernel_rfl) rfl) (hK _ (Below.refl _ _))
    | 36, _ => exact v_move 67 (opAtW ho (by kernel_rfl)) (hU 35 (by kernel_rfl) rfl) (hK _ (Below.refl _ _))
    | 37, _ => exact absurd hon (by decide)
    | 38, _ => exact absurd hon (by decide)
    | 39, _ => exact absurd hon (by decide)
    | 40, _ => exact v_orT 68 71 (opAtW ho (by kernel_rfl)) (hU 36 (by kernel_rfl) rfl) (hK _ (Below.refl _ _))
    | 41, _ => exact v_move 72 (opAtW ho (by kernel_rfl)) (hU 40 (by kernel_rfl) rfl) (hK _ (Below.refl _ _))
    | 42, _ => exact absurd hon (by decide)
    | 43, _ => exact absurd hon (by decide)
    | 44, _ => exact absurd hon (by decide)
    | 45, _ => exact v_orT 73 76 (opAtW ho (by kernel_rfl)) (hU 41 (by kernel_rfl) rfl) (hK _ (Below.refl _ _))
    | i + 46, h => exact absurd (show i + 46 < 46 from h) (by omega)
  · intro us w hu hb hv
    exact hend us w hu hb (hv 45 (by decide) rfl)
noncomputable def regR3_2_ops : Array Oper := opsW Tryd.f16 3
def regR3_2_ds : List Nat := [32, 33, 34, 35, 36, 37, 38, 39, 40, 41, 42, 43, 44, 45, 46, 47, 48, 49, 50, 51, 52, 53, 54, 55, 56, 57, 58, 59, 60, 61, 62, 63, 64, 65, 66, 67, 68, 69, 70, 71, 72, 73, 74, 75, 76, 77]
set_option maxRecDepth 100000 in
set_option maxHeartbeats 4000000 in
theorem regR3_2 {id : Nat} {ops : Array Oper} (hops : ops = regR3_2_ops) (T0 : Array Value) (hsz : 78 ≤ T0.size) (W : World) (g : Nat) (kn : Nat) (kd th tx pl v x why T b0 b1 b2 b3 b4 b5 b6 : Int) (hk : kd = kn) (hg : ∀ wx, Below W.heap.size W wx → wx.heap[g]? = some (.cells #[.int .u8 kd, .int .i64 th, .int .i64 tx, .int .i64 pl, .int .i64 v, .int .i64 x, .int .u8 why] 23 (0, 0))) (H1 : ∀ wx, Below W.heap.size W wx → Calls Tryd.prog 18 #[.int .u8 kd] wx fun r w' => r = .returned (.string (bsW (nmL kn))) ∧ Below wx.heap.size wx w') (H2 : ∀ wx, Below W.heap.size W wx → Calls Tryd.prog 39 #[.agg #[.int .u8 kd, .int .i64 th, .int .i64 tx, .int .i64 pl, .int .i64 v, .int .i64 x, .int .u8 why]] wx fun r w' => r = .returned (.agg #[.int .u8 b0, .int .i64 b1, .int .i64 b2, .int .i64 b3, .int .i64 b4, .int .i64 b5, .int .u8 b6]) ∧ Below wx.heap.size wx w') (c1 : (bsW (nmL kn)).toList.isEmpty = false) (c2 : decide (th < 0) = true) (h1 : T0[1]? = some (.int .i64 T)) (h4 : T0[4]? = some (.pointer (some ⟨g, 0, none⟩))) {Q : Exit → Act → World → Prop}
    (hend : ∀ (us : List Value) (w : World), us.length = 46 → Below W.heap.size W w → us.getD 45 undef = .bool true → Q .normal ⟨putAll T0 regR3_2_ds us, []⟩ w) : (Code.region id ops true).wp Tryd.prog Q ⟨T0, []⟩ W := by
  subst hops
  have hos : regR3_2_ops.size = 46 := by kernel_rfl
  have hga : (List.range 46).all (fun i => match regR3_2_ops[i]? with | some o => o.guard == ([none, none, none, none, none, some (4, false), some (4, false), some (4, false), none, none, some (9, false), some (9, false), some (9, false), some (9, false), none, none, some (15, false), some (15, false), some (15, false), some (15, false), none, none, some (21, false), some (21, false), some (21, false), none, none, some (26, false), some (26, false), some (26, false), none, none, some (31, false), some (31, false), some (31, false), none, none, some (36, false), some (36, false), some (36, false), none, none, some (41, false), some (41, false), some (41, false), none] : List (Option (Nat × Bool))).getD i none | none => false) = true := by kernel_rfl
  refine wp_region_vals3 ([.pointer (some ⟨g, 0, none⟩), .int .u8 kd, .string (bsW (nmL kn)), .bool false, .bool false, .pointer (some ⟨g, 1, none⟩), .int .i64 th, .bool true, .bool true, .bool true, undef, undef, undef, undef, .bool true, .bool true, undef, undef, undef, undef, .bool true, .bool true, undef, undef, undef, .bool true, .bool true, undef, undef, undef, .bool true, .bool true, undef, undef, undef, .bool true, .bool true, undef, undef, undef, .bool true, .bool true, undef, undef, undef, .bool true] : List Value) [true, true, true, true, true, true, true, true, true, true, false, false, false, false, true, true, false, false, false, false, true, true, false, false, false, true, true, false, false, false, true, true, false, false, false, true, true, false, false, false, true, true, false, false, false, true] regR3_2_ds W T0 (by decide) (fun x hx => ?_) (by kernel_rfl) (by kernel_rfl) (fun i o j want ho hg => ?_) ?_ ?_
  · have hall : (regR3_2_ds.all fun d => decide (d < 78)) = true := by decide
    have := List.all_eq_true.1 hall x hx
    simp only [decide_eq_true_eq] at this
    omega
  · have hi : i < 46 := by rw [← hos]; exact (Array.getElem?_eq_some_iff.1 ho).1
    have h1 := List.all_eq_true.1 hga i (by simpa using hi)
    rw [ho] at h1
    simp only [hg, beq_iff_eq] at h1
    match i, hi with
    | 0, _ => cases h1
    | 1, _ => cases h1
    | 2, _ => cases h1
    | 3, _ => cases h1
    | 4, _ => cases h1
    | 5, _ => obtain ⟨rfl, rfl⟩ := Prod.mk.inj (Option.some.inj h1); rfl
    | 6, _ => obtain ⟨rfl, rfl⟩ := Prod.mk.inj (Option.some.inj h1); rfl
    | 7, _ => obtain ⟨rfl, rfl⟩ := Prod.mk.inj (Option.some.inj h1); rfl
    | 8, _ => cases h1
    | 9, _ => cases h1
    | 10, _ => obtain ⟨rfl, rfl⟩ := Prod.mk.inj (Option.some.inj h1); rfl
    | 11, _ => obtain ⟨rfl, rfl⟩ := Prod.mk.inj (Option.some.inj h1); rfl
    | 12, _ => obtain ⟨rfl, rfl⟩ := Prod.mk.inj (Option.some.inj h1); rfl
    | 13, _ => obtain ⟨rfl, rfl⟩ := Prod.mk.inj (Option.some.inj h1); rfl
    | 14, _ => cases h1
    | 15, _ => cases h1
    | 16, _ => obtain ⟨rfl, rfl⟩ := Prod.mk.inj (Option.some.inj h1); rfl
    | 17, _ => obtain ⟨rfl, rfl⟩ := Prod.mk.inj (Option.some.inj h1); rfl
    | 18, _ => obtain ⟨rfl, rfl⟩ := Prod.mk.inj (Option.some.inj h1); rfl
    | 19, _ => obtain ⟨rfl, rfl⟩ := Prod.mk.inj (Option.some.inj h1); rfl
    | 20, _ => cases h1
    | 21, _ => cases h1
    | 22, _ => obtain ⟨rfl, rfl⟩ := Prod.mk.inj (Option.some.inj h1); rfl
    | 23, _ => obtain ⟨rfl, rfl⟩ := Prod.mk.inj (Option.some.inj h1); rfl
    | 24, _ => obtain ⟨rfl, rfl⟩ := Prod.mk.inj (Option.some.inj h1); rfl
    | 25, _ => cases h1
    | 26, _ => cases h1
    | 27, _ => obtain ⟨rfl, rfl⟩ := Prod.mk.inj (Option.some.inj h1); rfl
    | 28, _ => obtain ⟨rfl, rfl⟩ := Prod.mk.inj (Option.some.inj h1); rfl
    | 29, _ => obtain ⟨rfl, rfl⟩ := Prod.mk.inj (Option.some.inj h1); rfl
    | 30, _ => cases h1
    | 31, _ => cases h1
    | 32, _ => obtain ⟨rfl, rfl⟩ := Prod.mk.inj (Option.some.inj h1); rfl
    | 33, _ => obtain ⟨rfl, rfl⟩ := Prod.mk.inj (Option.some.inj h1); rfl
    | 34, _ => obtain ⟨rfl, rfl⟩ := Prod.mk.inj (Option.some.inj h1); rfl
    | 35, _ => cases h1
    | 36, _ => cases h1
    | 37, _ => obtain ⟨rfl, rfl⟩ := Prod.mk.inj (Option.some.inj h1); rfl
    | 38, _ => obtain ⟨rfl, rfl⟩ := Prod.mk.inj (Option.some.inj h1); rfl
    | 39, _ => obtain ⟨rfl, rfl⟩ := Prod.mk.inj (Option.some.inj h1); rfl
    | 40, _ => cases h1
    | 41, _ => cases h1
    | 42, _ => obtain ⟨rfl, rfl⟩ := Prod.mk.inj (Option.some.inj h1); rfl
    | 43, _ => obtain ⟨rfl, rfl⟩ := Prod.mk.inj (Option.some.inj h1); rfl
    | 44, _ => obtain ⟨rfl, rfl⟩ := Prod.mk.inj (Option.some.inj h1); rfl
    | 45, _ => cases h1
    | i + 46, h => exact absurd (show i + 46 < 46 from h) (by omega)
  · intro i o ho hi hon a w hT hU hb K hK
    have hT0 : ∀ t v, t ∉ regR3_2_ds → T0[t]? = some v → a.tmps[t]?.getD undef = v := fun t v ht hv => by rw [hT t ht, hv]; rfl
    match i, hi with
    | 0, _ => exact v_field0 4 (opAtW ho (by kernel_rfl)) (hT0 4 _ (by decide) h4) (hK _ (Below.refl _ _))
    | 1, _ => exact v_loadB 32 (opAtW ho (by kernel_rfl)) (hU 0 (by kernel_rfl) rfl) (cell_of_row w g 0 _ _ _ (hg w hb)) (hK _ (Below.refl _ _))
    | 2, _ => exact v_nameR 33 (opAtW ho (by kernel_rfl)) (hU 1 (by kernel_rfl) rfl) (H1 w hb) (fun w' hb' => hK w' hb')
    | 3, _ => exact v_eqlsc 34 (opAtW ho (by kernel_rfl)) (hU 2 (by kernel_rfl) rfl) (c1) (hK _ (Below.refl _ _))
    | 4, _ => exact v_move 35 (opAtW ho (by kernel_rfl)) (hU 3 (by kernel_rfl) rfl) (hK _ (Below.refl _ _))
    | 5, _ => exact v_field1 4 (opAtW ho (by kernel_rfl)) (hT0 4 _ (by decide) h4) (hK _ (Below.refl _ _))
    | 6, _ => exact s_loadI 37 (opAtW ho (by kernel_rfl)) (hU 5 (by kernel_rfl) rfl) (cell_of_row w g 1 _ _ _ (hg w hb)) (hK _ (Below.refl _ _))
    | 7, _ => exact v_lssc 38 (opAtW ho (by kernel_rfl)) (hU 6 (by kernel_rfl) rfl) (c2) (hK _ (Below.refl _ _))
    | 8, _ => exact v_orF 36 39 (opAtW ho (by kernel_rfl)) (hU 4 (by kernel_rfl) rfl) (hU 7 (by kernel_rfl) rfl) (hK _ (Below.refl _ _))
    | 9, _ => exact v_move 40 (opAtW ho (by kernel_rfl)) (hU 8 (by kernel_rfl) rfl) (hK _ (Below.refl _ _))
    | 10, _ => exact absurd hon (by decide)
    | 11, _ => exact absurd hon (by decide)
    | 12, _ => exact absurd hon (by decide)
    | 13, _ => exact absurd hon (by decide)
    | 14, _ => exact v_orT 41 45 (opAtW ho (by kernel_rfl)) (hU 9 (by kernel_rfl) rfl) (hK _ (Below.refl _ _))
    | 15, _ => exact v_move 46 (opAtW ho (by kernel_rfl)) (hU 14 (by kernel_rfl) rfl) (hK _ (Below.refl _ _))
    | 16, _ => exact absurd hon (by decide)
    | 17, _ => exact absurd hon (by decide)
    | 18, _ => exact absurd hon (by decide)
    | 19, _ => exact absurd hon (by decide)
    | 20, _ => exact v_orT 47 51 (opAtW ho (by kernel_rfl)) (hU 15 (by kernel_rfl) rfl) (hK _ (Below.refl _ _))
    | 21, _ => exact v_move 52 (opAtW ho (by kernel_rfl)) (hU 20 (by kernel_rfl) rfl) (hK _ (Below.refl _ _))
    | 22, _ => exact absurd hon (by decide)
    | 23, _ => exact absurd hon (by decide)
    | 24, _ => exact absurd hon (by decide)
    | 25, _ => exact v_orT 53 56 (opAtW ho (by kernel_rfl)) (hU 21 (by kernel_rfl) rfl) (hK _ (Below.refl _ _))
    | 26, _ => exact v_move 57 (opAtW ho (by kernel_rfl)) (hU 25 (by kernel_rfl) rfl) (hK _ (Below.refl _ _))
    | 27, _ => exact absurd hon (by decide)
    | 28, _ => exact absurd hon (by decide)
    | 29, _ => exact absurd hon (by decide)
    | 30, _ => exact v_orT 58 61 (opAtW ho (by kernel_rfl)) (hU 26 (by kernel_rfl) rfl) (hK _ (Below.refl _ _))
    | 31, _ => exact v_move 62 (opAtW ho (by kernel_rfl)) (hU 30 (by kernel_rfl) rfl) (hK _ (Below.refl _ _))
    | 32, _ => exact absurd hon (by decide)
    | 33, _ => exact absurd hon (by decide)
    | 34, _ => exact absurd hon (by decide)
    | 35, _ => exact v_orT 63 66 (opAtW ho (by kernel_rfl)) (hU 31 (by kernel_rfl) rfl) (hK _ (Below.refl _ _))
    | 36, _ => exact v_move 67 (opAtW ho (by kernel_rfl)) (hU 35 (by kernel_rfl) rfl) (hK _ (Below.refl _ _))
    | 37, _ => exact absurd hon (by decide)
    | 38, _ => exact absurd hon (by decide)
    | 39, _ => exact absurd hon (by decide)
    | 40, _ => exact v_orT 68 71 (opAtW ho (by kernel_rfl)) (hU 36 (by kernel_rfl) rfl) (hK _ (Below.refl _ _))
    | 41, _ => exact v_move 72 (opAtW ho (by kernel_rfl)) (hU 40 (by kernel_rfl) rfl) (hK _ (Below.refl _ _))
    | 42, _ => exact absurd hon (by decide)
    | 43, _ => exact absurd hon (by decide)
    | 44, _ => exact absurd hon (by decide)
    | 45, _ => exact v_orT 73 76 (opAtW ho (by kernel_rfl)) (hU 41 (by kernel_rfl) rfl) (hK _ (Below.refl _ _))
    | i + 46, h => exact absurd (show i + 46 < 46 from h) (by omega)
  · intro us w hu hb hv
    exact hend us w hu hb (hv 45 (by decide) rfl)
noncomputable def regR3_3_ops : Array Oper := opsW Tryd.f16 3
def regR3_3_ds : List Nat := [32, 33, 34, 35, 36, 37, 38, 39, 40, 41, 42, 43, 44, 45, 46, 47, 48, 49, 50, 51, 52, 53, 54, 55, 56, 57, 58, 59, 60, 61, 62, 63, 64, 65, 66, 67, 68, 69, 70, 71, 72, 73, 74, 75, 76, 77]
set_option maxRecDepth 100000 in
set_option maxHeartbeats 4000000 in
theorem regR3_3 {id : Nat} {ops : Array Oper} (hops : ops = regR3_3_ops) (T0 : Array Value) (hsz : 78 ≤ T0.size) (W : World) (g : Nat) (kn : Nat) (kd th tx pl v x why T b0 b1 b2 b3 b4 b5 b6 : Int) (hk : kd = kn) (hg : ∀ wx, Below W.heap.size W wx → wx.heap[g]? = some (.cells #[.int .u8 kd, .int .i64 th, .int .i64 tx, .int .i64 pl, .int .i64 v, .int .i64 x, .int .u8 why] 23 (0, 0))) (H1 : ∀ wx, Below W.heap.size W wx → Calls Tryd.prog 18 #[.int .u8 kd] wx fun r w' => r = .returned (.string (bsW (nmL kn))) ∧ Below wx.heap.size wx w') (H2 : ∀ wx, Below W.heap.size W wx → Calls Tryd.prog 39 #[.agg #[.int .u8 kd, .int .i64 th, .int .i64 tx, .int .i64 pl, .int .i64 v, .int .i64 x, .int .u8 why]] wx fun r w' => r = .returned (.agg #[.int .u8 b0, .int .i64 b1, .int .i64 b2, .int .i64 b3, .int .i64 b4, .int .i64 b5, .int .u8 b6]) ∧ Below wx.heap.size wx w') (c1 : (bsW (nmL kn)).toList.isEmpty = false) (c2 : decide (th < 0) = false) (c3 : decide (T ≤ th) = true) (h1 : T0[1]? = some (.int .i64 T)) (h4 : T0[4]? = some (.pointer (some ⟨g, 0, none⟩))) {Q : Exit → Act → World → Prop}
    (hend : ∀ (us : List Value) (w : World), us.length = 46 → Below W.heap.size W w → us.getD 45 undef = .bool true → Q .normal ⟨putAll T0 regR3_3_ds us, []⟩ w) : (Code.region id ops true).wp Tryd.prog Q ⟨T0, []⟩ W := by
  subst hops
  have hos : regR3_3_ops.size = 46 := by kernel_rfl
  have hga : (List.range 46).all (fun i => match regR3_3_ops[i]? with | some o => o.guard == ([none, none, none, none, none, some (4, false), some (4, false), some (4, false), none, none, some (9, false), some (9, false), some (9, false), some (9, false), none, none, some (15, false), some (15, false), some (15, false), some (15, false), none, none, some (21, false), some (21, false), some (21, false), none, none, some (26, false), some (26, false), some (26, false), none, none, some (31, false), some (31, false), some (31, false), none, none, some (36, false), some (36, false), some (36, false), none, none, some (41, false), some (41, false), some (41, false), none] : List (Option (Nat × Bool))).getD i none | none => false) = true := by kernel_rfl
  refine wp_region_vals3 ([.pointer (some ⟨g, 0, none⟩), .int .u8 kd, .string (bsW (nmL kn)), .bool false, .bool false, .pointer (some ⟨g, 1, none⟩), .int .i64 th, .bool false, .bool false, .bool false, .pointer (some ⟨g, 1, none⟩), .int .i64 th, .int .i64 T, .bool true, .bool true, .bool true, undef, undef, undef, undef, .bool true, .bool true, undef, undef, undef, .bool true, .bool true, undef, undef, undef, .bool true, .bool true, undef, undef, undef, .bool true, .bool true, undef, undef, undef, .bool true, .bool true, undef, undef, undef, .bool true] : List Value) [true, true, true, true, true, true, true, true, true, true, true, true, true, true, true, true, false, false, false, false, true, true, false, false, false, true, true, false, false, false, true, true, false, false, false, true, true, false, false, false, true, true, false, false, false, true] regR3_3_ds W T0 (by decide) (fun x hx => ?_) (by kernel_rfl) (by kernel_rfl) (fun i o j want ho hg => ?_) ?_ ?_
  · have hall : (regR3_3_ds.all fun d => decide (d < 78)) = true := by decide
    have := List.all_eq_true.1 hall x hx
    simp only [decide_eq_true_eq] at this
    omega
  · have hi : i < 46 := by rw [← hos]; exact (Array.getElem?_eq_some_iff.1 ho).1
    have h1 := List.all_eq_true.1 hga i (by simpa using hi)
    rw [ho] at h1
    simp only [hg, beq_iff_eq] at h1
    match i, hi with
    | 0, _ => cases h1
    | 1, _ => cases h1
    | 2, _ => cases h1
    | 3, _ => cases h1
    | 4, _ => cases h1
    | 5, _ => obtain ⟨rfl, rfl⟩ := Prod.mk.inj (Option.some.inj h1); rfl
    | 6, _ => obtain ⟨rfl, rfl⟩ := Prod.mk.inj (Option.some.inj h1); rfl
    | 7, _ => obtain ⟨rfl, rfl⟩ := Prod.mk.inj (Option.some.inj h1); rfl
    | 8, _ => cases h1
    | 9, _ => cases h1
    | 10, _ => obtain ⟨rfl, rfl⟩ := Prod.mk.inj (Option.some.inj h1); rfl
    | 11, _ => obtain ⟨rfl, rfl⟩ := Prod.mk.inj (Option.some.inj h1); rfl
    | 12, _ => obtain ⟨rfl, rfl⟩ := Prod.mk.inj (Option.some.inj h1); rfl
    | 13, _ => obtain ⟨rfl, rfl⟩ := Prod.mk.inj (Option.some.inj h1); rfl
    | 14, _ => cases h1
    | 15, _ => cases h1
    | 16, _ => obtain ⟨rfl, rfl⟩ := Prod.mk.inj (Option.some.inj h1); rfl
    | 17, _ => obtain ⟨rfl, rfl⟩ := Prod.mk.inj (Option.some.inj h1); rfl
    | 18, _ => obtain ⟨rfl, rfl⟩ := Prod.mk.inj (Option.some.inj h1); rfl
    | 19, _ => obtain ⟨rfl, rfl⟩ := Prod.mk.inj (Option.some.inj h1); rfl
    | 20, _ => cases h1
    | 21, _ => cases h1
    | 22, _ => obtain ⟨rfl, rfl⟩ := Prod.mk.inj (Option.some.inj h1); rfl
    | 23, _ => obtain ⟨rfl, rfl⟩ := Prod.mk.inj (Option.some.inj h1); rfl
    | 24, _ => obtain ⟨rfl, rfl⟩ := Prod.mk.inj (Option.some.inj h1); rfl
    | 25, _ => cases h1
    | 26, _ => cases h1
    | 27, _ => obtain ⟨rfl, rfl⟩ := Prod.mk.inj (Option.some.inj h1); rfl
    | 28, _ => obtain ⟨rfl, rfl⟩ := Prod.mk.inj (Option.some.inj h1); rfl
    | 29, _ => obtain ⟨rfl, rfl⟩ := Prod.mk.inj (Option.some.inj h1); rfl
    | 30, _ => cases h1
    | 31, _ => cases h1
    | 32, _ => obtain ⟨rfl, rfl⟩ := Prod.mk.inj (Option.some.inj h1); rfl
    | 33, _ => obtain ⟨rfl, rfl⟩ := Prod.mk.inj (Option.some.inj h1); rfl
    | 34, _ => obtain ⟨rfl, rfl⟩ := Prod.mk.inj (Option.some.inj h1); rfl
    | 35, _ => cases h1
    | 36, _ => cases h1
    | 37, _ => obtain ⟨rfl, rfl⟩ := Prod.mk.inj (Option.some.inj h1); rfl
    | 38, _ => obtain ⟨rfl, rfl⟩ := Prod.mk.inj (Option.some.inj h1); rfl
    | 39, _ => obtain ⟨rfl, rfl⟩ := Prod.mk.inj (Option.some.inj h1); rfl
    | 40, _ => cases h1
    | 41, _ => cases h1
    | 42, _ => obtain ⟨rfl, rfl⟩ := Prod.mk.inj (Option.some.inj h1); rfl
    | 43, _ => obtain ⟨rfl, rfl⟩ := Prod.mk.inj (Option.some.inj h1); rfl
    | 44, _ => obtain ⟨rfl, rfl⟩ := Prod.mk.inj (Option.some.inj h1); rfl
    | 45, _ => cases h1
    | i + 46, h => exact absurd (show i + 46 < 46 from h) (by omega)
  · intro i o ho hi hon a w hT hU hb K hK
    have hT0 : ∀ t v, t ∉ regR3_3_ds → T0[t]? = some v → a.tmps[t]?.getD undef = v := fun t v ht hv => by rw [hT t ht, hv]; rfl
    match i, hi with
    | 0, _ => exact v_field0 4 (opAtW ho (by kernel_rfl)) (hT0 4 _ (by decide) h4) (hK _ (Below.refl _ _))
    | 1, _ => exact v_loadB 32 (opAtW ho (by kernel_rfl)) (hU 0 (by kernel_rfl) rfl) (cell_of_row w g 0 _ _ _ (hg w hb)) (hK _ (Below.refl _ _))
    | 2, _ => exact v_nameR 33 (opAtW ho (by kernel_rfl)) (hU 1 (by kernel_rfl) rfl) (H1 w hb) (fun w' hb' => hK w' hb')
    | 3, _ => exact v_eqlsc 34 (opAtW ho (by kernel_rfl)) (hU 2 (by kernel_rfl) rfl) (c1) (hK _ (Below.refl _ _))
    | 4, _ => exact v_move 35 (opAtW ho (by kernel_rfl)) (hU 3 (by kernel_rfl) rfl) (hK _ (Below.refl _ _))
    | 5, _ => exact v_field1 4 (opAtW ho (by kernel_rfl)) (hT0 4 _ (by decide) h4) (hK _ (Below.refl _ _))
    | 6, _ => exact s_loadI 37 (opAtW ho (by kernel_rfl)) (hU 5 (by kernel_rfl) rfl) (cell_of_row w g 1 _ _ _ (hg w hb)) (hK _ (Below.refl _ _))
    | 7, _ => exact v_lssc 38 (opAtW ho (by kernel_rfl)) (hU 6 (by kernel_rfl) rfl) (c2) (hK _ (Below.refl _ _))
    | 8, _ => exact v_orF 36 39 (opAtW ho (by kernel_rfl)) (hU 4 (by kernel_rfl) rfl) (hU 7 (by kernel_rfl) rfl) (hK _ (Below.refl _ _))
    | 9, _ => exact v_move 40 (opAtW ho (by kernel_rfl)) (hU 8 (by kernel_rfl) rfl) (hK _ (Below.refl _ _))
    | 10, _ => exact v_field1 4 (opAtW ho (by kernel_rfl)) (hT0 4 _ (by decide) h4) (hK _ (Below.refl _ _))
    | 11, _ => exact s_loadI 42 (opAtW ho (by kernel_rfl)) (hU 10 (by kernel_rfl) rfl) (cell_of_row w g 1 _ _ _ (hg w hb)) (hK _ (Below.refl _ _))
    | 12, _ => exact v_move 1 (opAtW ho (by kernel_rfl)) (hT0 1 _ (by decide) h1) (hK _ (Below.refl _ _))
    | 13, _ => exact v_geq 43 44 (opAtW ho (by kernel_rfl)) (hU 11 (by kernel_rfl) rfl) (hU 12 (by kernel_rfl) rfl) (c3) (hK _ (Below.refl _ _))
    | 14, _ => exact v_orF 41 45 (opAtW ho (by kernel_rfl)) (hU 9 (by kernel_rfl) rfl) (hU 13 (by kernel_rfl) rfl) (hK _ (Below.refl _ _))
    | 15, _ => exact v_move 46 (opAtW ho (by kernel_rfl)) (hU 14 (by kernel_rfl) rfl) (hK _ (Below.refl _ _))
    | 16, _ => exact absurd hon (by decide)
    | 17, _ => exact absurd hon (by decide)
    | 18, _ => exact absurd hon (by decide)
    | 19, _ => exact absurd hon (by decide)
    | 20, _ => exact v_orT 47 51 (opAtW ho (by kernel_rfl)) (hU 15 (by kernel_rfl) rfl) (hK _ (Below.refl _ _))
    | 21, _ => exact v_move 52 (opAtW ho (by kernel_rfl)) (hU 20 (by kernel_rfl) rfl) (hK _ (Below.refl _ _))
    | 22, _ => exact absurd hon (by decide)
    | 23, _ => exact absurd hon (by decide)
    | 24, _ => exact absurd hon (by decide)
    | 25, _ => exact v_orT 53 56 (opAtW ho (by kernel_rfl)) (hU 21 (by kernel_rfl) rfl) (hK _ (Below.refl _ _))
    | 26, _ => exact v_move 57 (opAtW ho (by kernel_rfl)) (hU 25 (by kernel_rfl) rfl) (hK _ (Below.refl _ _))
    | 27, _ => exact absurd hon (by decide)
    | 28, _ => exact absurd hon (by decide)
    | 29, _ => exact absurd hon (by decide)
    | 30, _ => exact v_orT 58 61 (opAtW ho (by kernel_rfl)) (hU 26 (by kernel_rfl) rfl) (hK _ (Below.refl _ _))
    | 31, _ => exact v_move 62 (opAtW ho (by kernel_rfl)) (hU 30 (by kernel_rfl) rfl) (hK _ (Below.refl _ _))
    | 32, _ => exact absurd hon (by decide)
    | 33, _ => exact absurd hon (by decide)
    | 34, _ => exact absurd hon (by decide)
    | 35, _ => exact v_orT 63 66 (opAtW ho (by kernel_rfl)) (hU 31 (by kernel_rfl) rfl) (hK _ (Below.refl _ _))
    | 36, _ => exact v_move 67 (opAtW ho (by kernel_rfl)) (hU 35 (by kernel_rfl) rfl) (hK _ (Below.refl _ _))
    | 37, _ => exact absurd hon (by decide)
    | 38, _ => exact absurd hon (by decide)
    | 39, _ => exact absurd hon (by decide)
    | 40, _ => exact v_orT 68 71 (opAtW ho (by kernel_rfl)) (hU 36 (by kernel_rfl) rfl) (hK _ (Below.refl _ _))
    | 41, _ => exact v_move 72 (opAtW ho (by kernel_rfl)) (hU 40 (by kernel_rfl) rfl) (hK _ (Below.refl _ _))
    | 42, _ => exact absurd hon (by decide)
    | 43, _ => exact absurd hon (by decide)
    | 44, _ => exact absurd hon (by decide)
    | 45, _ => exact v_orT 73 76 (opAtW ho (by kernel_rfl)) (hU 41 (by kernel_rfl) rfl) (hK _ (Below.refl _ _))
    | i + 46, h => exact absurd (show i + 46 < 46 from h) (by omega)
  · intro us w hu hb hv
    exact hend us w hu hb (hv 45 (by decide) rfl)
noncomputable def regR3_4_ops : Array Oper := opsW Tryd.f16 3
def regR3_4_ds : List Nat := [32, 33, 34, 35, 36, 37, 38, 39, 40, 41, 42, 43, 44, 45, 46, 47, 48, 49, 50, 51, 52, 53, 54, 55, 56, 57, 58, 59, 60, 61, 62, 63, 64, 65, 66, 67, 68, 69, 70, 71, 72, 73, 74, 75, 76, 77]
set_option maxRecDepth 100000 in
set_option maxHeartbeats 4000000 in
theorem regR3_4 {id : Nat} {ops : Array Oper} (hops : ops = regR3_4_ops) (T0 : Array Value) (hsz : 78 ≤ T0.size) (W : World) (g : Nat) (kn : Nat) (kd th tx pl v x why T b0 b1 b2 b3 b4 b5 b6 : Int) (hk : kd = kn) (hg : ∀ wx, Below W.heap.size W wx → wx.heap[g]? = some (.cells #[.int .u8 kd, .int .i64 th, .int .i64 tx, .int .i64 pl, .int .i64 v, .int .i64 x, .int .u8 why] 23 (0, 0))) (H1 : ∀ wx, Below W.heap.size W wx → Calls Tryd.prog 18 #[.int .u8 kd] wx fun r w' => r = .returned (.string (bsW (nmL kn))) ∧ Below wx.heap.size wx w') (H2 : ∀ wx, Below W.heap.size W wx → Calls Tryd.prog 39 #[.agg #[.int .u8 kd, .int .i64 th, .int .i64 tx, .int .i64 pl, .int .i64 v, .int .i64 x, .int .u8 why]] wx fun r w' => r = .returned (.agg #[.int .u8 b0, .int .i64 b1, .int .i64 b2, .int .i64 b3, .int .i64 b4, .int .i64 b5, .int .u8 b6]) ∧ Below wx.heap.size wx w') (c1 : (bsW (nmL kn)).toList.isEmpty = false) (c2 : decide (th < 0) = false) (c3 : decide (T ≤ th) = false) (c4 : (!(b0 == kd && (b1 == th && (b2 == tx && (b3 == pl && (b4 == v && (b5 == x && b6 == why))))))) = true) (h1 : T0[1]? = some (.int .i64 T)) (h4 : T0[4]? = some (.pointer (some ⟨g, 0, none⟩))) {Q : Exit → Act → World → Prop}
    (hend : ∀ (us : List Value) (w : World), us.length = 46 → Below W.heap.size W w → us.getD 45 undef = .bool true → Q .normal ⟨putAll T0 regR3_4_ds us, []⟩ w) : (Code.region id ops true).wp Tryd.prog Q ⟨T0, []⟩ W := by
  subst hops
  have hos : regR3_4_ops.size = 46 := by kernel_rfl
  have hga : (List.range 46).all (fun i => match regR3_4_ops[i]? with | some o => o.guard == ([none, none, none, none, none, some (4, false), some (4, false), some (4, false), none, none, some (9, false), some (9, false), some (9, false), some (9, false), none, none, some (15, false), some (15, false), some (15, false), some (15, false), none, none, some (21, false), some (21, false), some (21, false), none, none, some (26, false), some (26, false), some (26, false), none, none, some (31, false), some (31, false), some (31, false), none, none, some (36, false), some (36, false), some (36, false), none, none, some (41, false), some (41, false), some (41, false), none] : List (Option (Nat × Bool))).getD i none | none => false) = true := by kernel_rfl
  refine wp_region_vals3 ([.pointer (some ⟨g, 0, none⟩), .int .u8 kd, .string (bsW (nmL kn)), .bool false, .bool false, .pointer (some ⟨g, 1, none⟩), .int .i64 th, .bool false, .bool false, .bool false, .pointer (some ⟨g, 1, none⟩), .int .i64 th, .int .i64 T, .bool false, .bool false, .bool false, .agg #[.int .u8 kd, .int .i64 th, .int .i64 tx, .int .i64 pl, .int .i64 v, .int .i64 x, .int .u8 why], .agg #[.int .u8 b0, .int .i64 b1, .int .i64 b2, .int .i64 b3, .int .i64 b4, .int .i64 b5, .int .u8 b6], .agg #[.int .u8 kd, .int .i64 th, .int .i64 tx, .int .i64 pl, .int .i64 v, .int .i64 x, .int .u8 why], .bool true, .bool true, .bool true, undef, undef, undef, .bool true, .bool true, undef, undef, undef, .bool true, .bool true, undef, undef, undef, .bool true, .bool true, undef, undef, undef, .bool true, .bool true, undef, undef, undef, .bool true] : List Value) [true, true, true, true, true, true, true, true, true, true, true, true, true, true, true, true, true, true, true, true, true, true, false, false, false, true, true, false, false, false, true, true, false, false, false, true, true, false, false, false, true, true, false, false, false, true] regR3_4_ds W T0 (by decide) (fun x hx => ?_) (by kernel_rfl) (by kernel_rfl) (fun i o j want ho hg => ?_) ?_ ?_
  · have hall : (regR3_4_ds.all fun d => decide (d < 78)) = true := by decide
    have := List.all_eq_true.1 hall x hx
    simp only [decide_eq_true_eq] at this
    omega
  · have hi : i < 46 := by rw [← hos]; exact (Array.getElem?_eq_some_iff.1 ho).1
    have h1 := List.all_eq_true.1 hga i (by simpa using hi)
    rw [ho] at h1
    simp only [hg, beq_iff_eq] at h1
    match i, hi with
    | 0, _ => cases h1
    | 1, _ => cases h1
    | 2, _ => cases h1
    | 3, _ => cases h1
    | 4, _ => cases h1
    | 5, _ => obtain ⟨rfl, rfl⟩ := Prod.mk.inj (Option.some.inj h1); rfl
    | 6, _ => obtain ⟨rfl, rfl⟩ := Prod.mk.inj (Option.some.inj h1); rfl
    | 7, _ => obtain ⟨rfl, rfl⟩ := Prod.mk.inj (Option.some.inj h1); rfl
    | 8, _ => cases h1
    | 9, _ => cases h1
    | 10, _ => obtain ⟨rfl, rfl⟩ := Prod.mk.inj (Option.some.inj h1); rfl
    | 11, _ => obtain ⟨rfl, rfl⟩ := Prod.mk.inj (Option.some.inj h1); rfl
    | 12, _ => obtain ⟨rfl, rfl⟩ := Prod.mk.inj (Option.some.inj h1); rfl
    | 13, _ => obtain ⟨rfl, rfl⟩ := Prod.mk.inj (Option.some.inj h1); rfl
    | 14, _ => cases h1
    | 15, _ => cases h1
    | 16, _ => obtain ⟨rfl, rfl⟩ := Prod.mk.inj (Option.some.inj h1); rfl
    | 17, _ => obtain ⟨rfl, rfl⟩ := Prod.mk.inj (Option.some.inj h1); rfl
    | 18, _ => obtain ⟨rfl, rfl⟩ := Prod.mk.inj (Option.some.inj h1); rfl
    | 19, _ => obtain ⟨rfl, rfl⟩ := Prod.mk.inj (Option.some.inj h1); rfl
    | 20, _ => cases h1
    | 21, _ => cases h1
    | 22, _ => obtain ⟨rfl, rfl⟩ := Prod.mk.inj (Option.some.inj h1); rfl
    | 23, _ => obtain ⟨rfl, rfl⟩ := Prod.mk.inj (Option.some.inj h1); rfl
    | 24, _ => obtain ⟨rfl, rfl⟩ := Prod.mk.inj (Option.some.inj h1); rfl
    | 25, _ => cases h1
    | 26, _ => cases h1
    | 27, _ => obtain ⟨rfl, rfl⟩ := Prod.mk.inj (Option.some.inj h1); rfl
    | 28, _ => obtain ⟨rfl, rfl⟩ := Prod.mk.inj (Option.some.inj h1); rfl
    | 29, _ => obtain ⟨rfl, rfl⟩ := Prod.mk.inj (Option.some.inj h1); rfl
    | 30, _ => cases h1
    | 31, _ => cases h1
    | 32, _ => obtain ⟨rfl, rfl⟩ := Prod.mk.inj (Option.some.inj h1); rfl
    | 33, _ => obtain ⟨rfl, rfl⟩ := Prod.mk.inj (Option.some.inj h1); rfl
    | 34, _ => obtain ⟨rfl, rfl⟩ := Prod.mk.inj (Option.some.inj h1); rfl
    | 35, _ => cases h1
    | 36, _ => cases h1
    | 37, _ => obtain ⟨rfl, rfl⟩ := Prod.mk.inj (Option.some.inj h1); rfl
    | 38, _ => obtain ⟨rfl, rfl⟩ := Prod.mk.inj (Option.some.inj h1); rfl
    | 39, _ => obtain ⟨rfl, rfl⟩ := Prod.mk.inj (Option.some.inj h1); rfl
    | 40, _ => cases h1
    | 41, _ => cases h1
    | 42, _ => obtain ⟨rfl, rfl⟩ := Prod.mk.inj (Option.some.inj h1); rfl
    | 43, _ => obtain ⟨rfl, rfl⟩ := Prod.mk.inj (Option.some.inj h1); rfl
    | 44, _ => obtain ⟨rfl, rfl⟩ := Prod.mk.inj (Option.some.inj h1); rfl
    | 45, _ => cases h1
    | i + 46, h => exact absurd (show i + 46 < 46 from h) (by omega)
  · intro i o ho hi hon a w hT hU hb K hK
    have hT0 : ∀ t v, t ∉ regR3_4_ds → T0[t]? = some v → a.tmps[t]?.getD undef = v := fun t v ht hv => by rw [hT t ht, hv]; rfl
    match i, hi with
    | 0, _ => exact v_field0 4 (opAtW ho (by kernel_rfl)) (hT0 4 _ (by decide) h4) (hK _ (Below.refl _ _))
    | 1, _ => exact v_loadB 32 (opAtW ho (by kernel_rfl)) (hU 0 (by kernel_rfl) rfl) (cell_of_row w g 0 _ _ _ (hg w hb)) (hK _ (Below.refl _ _))
    | 2, _ => exact v_nameR 33 (opAtW ho (by kernel_rfl)) (hU 1 (by kernel_rfl) rfl) (H1 w hb) (fun w' hb' => hK w' hb')
    | 3, _ => exact v_eqlsc 34 (opAtW ho (by kernel_rfl)) (hU 2 (by kernel_rfl) rfl) (c1) (hK _ (Below.refl _ _))
    | 4, _ => exact v_move 35 (opAtW ho (by kernel_rfl)) (hU 3 (by kernel_rfl) rfl) (hK _ (Below.refl _ _))
    | 5, _ => exact v_field1 4 (opAtW ho (by kernel_rfl)) (hT0 4 _ (by decide) h4) (hK _ (Below.refl _ _))
    | 6, _ => exact s_loadI 37 (opAtW ho (by kernel_rfl)) (hU 5 (by kernel_rfl) rfl) (cell_of_row w g 1 _ _ _ (hg w hb)) (hK _ (Below.refl _ _))
    | 7, _ => exact v_lssc 38 (opAtW ho (by kernel_rfl)) (hU 6 (by kernel_rfl) rfl) (c2) (hK _ (Below.refl _ _))
    | 8, _ => exact v_orF 36 39 (opAtW ho (by kernel_rfl)) (hU 4 (by kernel_rfl) rfl) (hU 7 (by kernel_rfl) rfl) (hK _ (Below.refl _ _))
    | 9, _ => exact v_move 40 (opAtW ho (by kernel_rfl)) (hU 8 (by kernel_rfl) rfl) (hK _ (Below.refl _ _))
    | 10, _ => exact v_field1 4 (opAtW ho (by kernel_rfl)) (hT0 4 _ (by decide) h4) (hK _ (Below.refl _ _))
    | 11, _ => exact s_loadI 42 (opAtW ho (by kernel_rfl)) (hU 10 (by kernel_rfl) rfl) (cell_of_row w g 1 _ _ _ (hg w hb)) (hK _ (Below.refl _ _))
    | 12, _ => exact v_move 1 (opAtW ho (by kernel_rfl)) (hT0 1 _ (by decide) h1) (hK _ (Below.refl _ _))
    | 13, _ => exact v_geq 43 44 (opAtW ho (by kernel_rfl)) (hU 11 (by kernel_rfl) rfl) (hU 12 (by kernel_rfl) rfl) (c3) (hK _ (Below.refl _ _))
    | 14, _ => exact v_orF 41 45 (opAtW ho (by kernel_rfl)) (hU 9 (by kernel_rfl) rfl) (hU 13 (by kernel_rfl) rfl) (hK _ (Below.refl _ _))
    | 15, _ => exact v_move 46 (opAtW ho (by kernel_rfl)) (hU 14 (by kernel_rfl) rfl) (hK _ (Below.refl _ _))
    | 16, _ => exact v_loadE 4 (opAtW ho (by kernel_rfl)) (hT0 4 _ (by decide) h4) (hg w hb) rfl (hK _ (Below.refl _ _))
    | 17, _ => exact v_bare 48 (opAtW ho (by kernel_rfl)) (hU 16 (by kernel_rfl) rfl) (H2 w hb) (fun w' hb' => hK w' hb')
    | 18, _ => exact v_loadE 4 (opAtW ho (by kernel_rfl)) (hT0 4 _ (by decide) h4) (hg w hb) rfl (hK _ (Below.refl _ _))
    | 19, _ => exact v_neqE 49 50 (opAtW ho (by kernel_rfl)) (hU 17 (by kernel_rfl) rfl) (hU 18 (by kernel_rfl) rfl) (c4) (hK _ (Below.refl _ _))
    | 20, _ => exact v_orF 47 51 (opAtW ho (by kernel_rfl)) (hU 15 (by kernel_rfl) rfl) (hU 19 (by kernel_rfl) rfl) (hK _ (Below.refl _ _))
    | 21, _ => exact v_move 52 (opAtW ho (by kernel_rfl)) (hU 20 (by kernel_rfl) rfl) (hK _ (Below.refl _ _))
    | 22, _ => exact absurd hon (by decide)
    | 23, _ => exact absurd hon (by decide)
    | 24, _ => exact absurd hon (by decide)
    | 25, _ => exact v_orT 53 56 (opAtW ho (by kernel_rfl)) (hU 21 (by kernel_rfl) rfl) (hK _ (Below.refl _ _))
    | 26, _ => exact v_move 57 (opAtW ho (by kernel_rfl)) (hU 25 (by kernel_rfl) rfl) (hK _ (Below.refl _ _))
    | 27, _ => exact absurd hon (by decide)
    | 28, _ => exact absurd hon (by decide)
    | 29, _ => exact absurd hon (by decide)
    | 30, _ => exact v_orT 58 61 (opAtW ho (by kernel_rfl)) (hU 26 (by kernel_rfl) rfl) (hK _ (Below.refl _ _))
    | 31, _ => exact v_move 62 (opAtW ho (by kernel_rfl)) (hU 30 (by kernel_rfl) rfl) (hK _ (Below.refl _ _))
    | 32, _ => exact absurd hon (by decide)
    | 33, _ => exact absurd hon (by decide)
    | 34, _ => exact absurd hon (by decide)
    | 35, _ => exact v_orT 63 66 (opAtW ho (by kernel_rfl)) (hU 31 (by kernel_rfl) rfl) (hK _ (Below.refl _ _))
    | 36, _ => exact v_move 67 (opAtW ho (by kernel_rfl)) (hU 35 (by kernel_rfl) rfl) (hK _ (Below.refl _ _))
    | 37, _ => exact absurd hon (by decide)
    | 38, _ => exact absurd hon (by decide)
    | 39, _ => exact absurd hon (by decide)
    | 40, _ => exact v_orT 68 71 (opAtW ho (by kernel_rfl)) (hU 36 (by kernel_rfl) rfl) (hK _ (Below.refl _ _))
    | 41, _ => exact v_move 72 (opAtW ho (by kernel_rfl)) (hU 40 (by kernel_rfl) rfl) (hK _ (Below.refl _ _))
    | 42, _ => exact absurd hon (by decide)
    | 43, _ => exact absurd hon (by decide)
    | 44, _ => exact absurd hon (by decide)
    | 45, _ => exact v_orT 73 76 (opAtW ho (by kernel_rfl)) (hU 41 (by kernel_rfl) rfl) (hK _ (Below.refl _ _))
    | i + 46, h => exact absurd (show i + 46 < 46 from h) (by omega)
  · intro us w hu hb hv
    exact hend us w hu hb (hv 45 (by decide) rfl)
noncomputable def regR3_5_ops : Array Oper := opsW Tryd.f16 3
def regR3_5_ds : List Nat := [32, 33, 34, 35, 36, 37, 38, 39, 40, 41, 42, 43, 44, 45, 46, 47, 48, 49, 50, 51, 52, 53, 54, 55, 56, 57, 58, 59, 60, 61, 62, 63, 64, 65, 66, 67, 68, 69, 70, 71, 72, 73, 74, 75, 76, 77]
set_option maxRecDepth 100000 in
set_option maxHeartbeats 4000000 in
theorem regR3_5 {id : Nat} {ops : Array Oper} (hops : ops = regR3_5_ops) (T0 : Array Value) (hsz : 78 ≤ T0.size) (W : World) (g : Nat) (kn : Nat) (kd th tx pl v x why T b0 b1 b2 b3 b4 b5 b6 : Int) (hk : kd = kn) (hg : ∀ wx, Below W.heap.size W wx → wx.heap[g]? = some (.cells #[.int .u8 kd, .int .i64 th, .int .i64 tx, .int .i64 pl, .int .i64 v, .int .i64 x, .int .u8 why] 23 (0, 0))) (H1 : ∀ wx, Below W.heap.size W wx → Calls Tryd.prog 18 #[.int .u8 kd] wx fun r w' => r = .returned (.string (bsW (nmL kn))) ∧ Below wx.heap.size wx w') (H2 : ∀ wx, Below W.heap.size W wx → Calls Tryd.prog 39 #[.agg #[.int .u8 kd, .int .i64 th, .int .i64 tx, .int .i64 pl, .int .i64 v, .int .i64 x, .int .u8 why]] wx fun r w' => r = .returned (.agg #[.int .u8 b0, .int .i64 b1, .int .i64 b2, .int .i64 b3, .int .i64 b4, .int .i64 b5, .int .u8 b6]) ∧ Below wx.heap.size wx w') (c1 : (bsW (nmL kn)).toList.isEmpty = false) (c2 : decide (th < 0) = false) (c3 : decide (T ≤ th) = false) (c4 : (!(b0 == kd && (b1 == th && (b2 == tx && (b3 == pl && (b4 == v && (b5 == x && b6 == why))))))) = false) (c5 : decide (tx < 0) = true) (h1 : T0[1]? = some (.int .i64 T)) (h4 : T0[4]? = some (.pointer (some ⟨g, 0, none⟩))) {Q : Exit → Act → World → Prop}
    (hend : ∀ (us : List Value) (w : World), us.length = 46 → Below W.heap.size W w → us.getD 45 undef = .bool true → Q .normal ⟨putAll T0 regR3_5_ds us, []⟩ w) : (Code.region id ops true).wp Tryd.prog Q ⟨T0, []⟩ W := by
  subst hops
  have hos : regR3_5_ops.size = 46 := by kernel_rfl
  have hga : (List.range 46).all (fun i => match regR3_5_ops[i]? with | some o => o.guard == ([none, none, none, none, none, some (4, false), some (4, false), some (4, false), none, none, some (9, false), some (9, false), some (9, false), some (9, false), none, none, some (15, false), some (15, false), some (15, false), some (15, false), none, none, some (21, false), some (21, false), some (21, false), none, none, some (26, false), some (26, false), some (26, false), none, none, some (31, false), some (31, false), some (31, false), none, none, some (36, false), some (36, false), some (36, false), none, none, some (41, false), some (41, false), some (41, false), none] : List (Option (Nat × Bool))).getD i none | none => false) = true := by kernel_rfl
  refine wp_region_vals3 ([.pointer (some ⟨g, 0, none⟩), .int .u8 kd, .string (bsW (nmL kn)), .bool false, .bool false, .pointer (some ⟨g, 1, none⟩), .int .i64 th, .bool false, .bool false, .bool false, .pointer (some ⟨g, 1, none⟩), .int .i64 th, .int .i64 T, .bool false, .bool false, .bool false, .agg #[.int .u8 kd, .int .i64 th, .int .i64 tx, .int .i64 pl, .int .i64 v, .int .i64 x, .int .u8 why], .agg #[.int .u8 b0, .int .i64 b1, .int .i64 b2, .int .i64 b3, .int .i64 b4, .int .i64 b5, .int .u8 b6], .agg #[.int .u8 kd, .int .i64 th, .int .i64 tx, .int .i64 pl, .int .i64 v, .int .i64 x, .int .u8 why], .bool false, .bool false, .bool false, .pointer (some ⟨g, 2, none⟩), .int .i64 tx, .bool true, .bool true, .bool true, undef, undef, undef, .bool true, .bool true, undef, undef, undef, .bool true, .bool true, undef, undef, undef, .bool true, .bool true, undef, undef, undef, .bool true] : List Value) [true, true, true, true, true, true, true, true, true, true, true, true, true, true, true, true, true, true, true, true, true, true, true, true, true, true, true, false, false, false, true, true, false, false, false, true, true, false, false, false, true, true, false, false, false, true] regR3_5_ds W T0 (by decide) (fun x hx => ?_) (by kernel_rfl) (by kernel_rfl) (fun i o j want ho hg => ?_) ?_ ?_
  · have hall : (regR3_5_ds.all fun d => decide (d < 78)) = true := by decide
    have := List.all_eq_true.1 hall x hx
    simp only [decide_eq_true_eq] at this
    omega
  · have hi : i < 46 := by rw [← hos]; exact (Array.getElem?_eq_some_iff.1 ho).1
    have h1 := List.all_eq_true.1 hga i (by simpa using hi)
    rw [ho] at h1
    simp only [hg, beq_iff_eq] at h1
    match i, hi with
    | 0, _ => cases h1
    | 1, _ => cases h1
    | 2, _ => cases h1
    | 3, _ => cases h1
    | 4, _ => cases h1
    | 5, _ => obtain ⟨rfl, rfl⟩ := Prod.mk.inj (Option.some.inj h1); rfl
    | 6, _ => obtain ⟨rfl, rfl⟩ := Prod.mk.inj (Option.some.inj h1); rfl
    | 7, _ => obtain ⟨rfl, rfl⟩ := Prod.mk.inj (Option.some.inj h1); rfl
    | 8, _ => cases h1
    | 9, _ => cases h1
    | 10, _ => obtain ⟨rfl, rfl⟩ := Prod.mk.inj (Option.some.inj h1); rfl
    | 11, _ => obtain ⟨rfl, rfl⟩ := Prod.mk.inj (Option.some.inj h1); rfl
    | 12, _ => obtain ⟨rfl, rfl⟩ := Prod.mk.inj (Option.some.inj h1); rfl
    | 13, _ => obtain ⟨rfl, rfl⟩ := Prod.mk.inj (Option.some.inj h1); rfl
    | 14, _ => cases h1
    | 15, _ => cases h1
    | 16, _ => obtain ⟨rfl, rfl⟩ := Prod.mk.inj (Option.some.inj h1); rfl
    | 17, _ => obtain ⟨rfl, rfl⟩ := Prod.mk.inj (Option.some.inj h1); rfl
    | 18, _ => obtain ⟨rfl, rfl⟩ := Prod.mk.inj (Option.some.inj h1); rfl
    | 19, _ => obtain ⟨rfl, rfl⟩ := Prod.mk.inj (Option.some.inj h1); rfl
    | 20, _ => cases h1
    | 21, _ => cases h1
    | 22, _ => obtain ⟨rfl, rfl⟩ := Prod.mk.inj (Option.some.inj h1); rfl
    | 23, _ => obtain ⟨rfl, rfl⟩ := Prod.mk.inj (Option.some.inj h1); rfl
    | 24, _ => obtain ⟨rfl, rfl⟩ := Prod.mk.inj (Option.some.inj h1); rfl
    | 25, _ => cases h1
    | 26, _ => cases h1
    | 27, _ => obtain ⟨rfl, rfl⟩ := Prod.mk.inj (Option.some.inj h1); rfl
    | 28, _ => obtain ⟨rfl, rfl⟩ := Prod.mk.inj (Option.some.inj h1); rfl
    | 29, _ => obtain ⟨rfl, rfl⟩ := Prod.mk.inj (Option.some.inj h1); rfl
    | 30, _ => cases h1
    | 31, _ => cases h1
    | 32, _ => obtain ⟨rfl, rfl⟩ := Prod.mk.inj (Option.some.inj h1); rfl
    | 33, _ => obtain ⟨rfl, rfl⟩ := Prod.mk.inj (Option.some.inj h1); rfl
    | 34, _ => obtain ⟨rfl, rfl⟩ := Prod.mk.inj (Option.some.inj h1); rfl
    | 35, _ => cases h1
    | 36, _ => cases h1
    | 37, _ => obtain ⟨rfl, rfl⟩ := Prod.mk.inj (Option.some.inj h1); rfl
    | 38, _ => obtain ⟨rfl, rfl⟩ := Prod.mk.inj (Option.some.inj h1); rfl
    | 39, _ => obtain ⟨rfl, rfl⟩ := Prod.mk.inj (Option.some.inj h1); rfl
    | 40, _ => cases h1
    | 41, _ => cases h1
    | 42, _ => obtain ⟨rfl, rfl⟩ := Prod.mk.inj (Option.some.inj h1); rfl
    | 43, _ => obtain ⟨rfl, rfl⟩ := Prod.mk.inj (Option.some.inj h1); rfl
    | 44, _ => obtain ⟨rfl, rfl⟩ := Prod.mk.inj (Option.some.inj h1); rfl
    | 45, _ => cases h1
    | i + 46, h => exact absurd (show i + 46 < 46 from h) (by omega)
  · intro i o ho hi hon a w hT hU hb K hK
    have hT0 : ∀ t v, t ∉ regR3_5_ds → T0[t]? = some v → a.tmps[t]?.getD undef = v := fun t v ht hv => by rw [hT t ht, hv]; rfl
    match i, hi with
    | 0, _ => exact v_field0 4 (opAtW ho (by kernel_rfl)) (hT0 4 _ (by decide) h4) (hK _ (Below.refl _ _))
    | 1, _ => exact v_loadB 32 (opAtW ho (by kernel_rfl)) (hU 0 (by kernel_rfl) rfl) (cell_of_row w g 0 _ _ _ (hg w hb)) (hK _ (Below.refl _ _))
    | 2, _ => exact v_nameR 33 (opAtW ho (by kernel_rfl)) (hU 1 (by kernel_rfl) rfl) (H1 w hb) (fun w' hb' => hK w' hb')
    | 3, _ => exact v_eqlsc 34 (opAtW ho (by kernel_rfl)) (hU 2 (by kernel_rfl) rfl) (c1) (hK _ (Below.refl _ _))
    | 4, _ => exact v_move 35 (opAtW ho (by kernel_rfl)) (hU 3 (by kernel_rfl) rfl) (hK _ (Below.refl _ _))
    | 5, _ => exact v_field1 4 (opAtW ho (by kernel_rfl)) (hT0 4 _ (by decide) h4) (hK _ (Below.refl _ _))
    | 6, _ => exact s_loadI 37 (opAtW ho (by kernel_rfl)) (hU 5 (by kernel_rfl) rfl) (cell_of_row w g 1 _ _ _ (hg w hb)) (hK _ (Below.refl _ _))
    | 7, _ => exact v_lssc 38 (opAtW ho (by kernel_rfl)) (hU 6 (by kernel_rfl) rfl) (c2) (hK _ (Below.refl _ _))
    | 8, _ => exact v_orF 36 39 (opAtW ho (by kernel_rfl)) (hU 4 (by kernel_rfl) rfl) (hU 7 (by kernel_rfl) rfl) (hK _ (Below.refl _ _))
    | 9, _ => exact v_move 40 (opAtW ho (by kernel_rfl)) (hU 8 (by kernel_rfl) rfl) (hK _ (Below.refl _ _))
    | 10, _ => exact v_field1 4 (opAtW ho (by kernel_rfl)) (hT0 4 _ (by decide) h4) (hK _ (Below.refl _ _))
    | 11, _ => exact s_loadI 42 (opAtW ho (by kernel_rfl)) (hU 10 (by kernel_rfl) rfl) (cell_of_row w g 1 _ _ _ (hg w hb)) (hK _ (Below.refl _ _))
    | 12, _ => exact v_move 1 (opAtW ho (by kernel_rfl)) (hT0 1 _ (by decide) h1) (hK _ (Below.refl _ _))
    | 13, _ => exact v_geq 43 44 (opAtW ho (by kernel_rfl)) (hU 11 (by kernel_rfl) rfl) (hU 12 (by kernel_rfl) rfl) (c3) (hK _ (Below.refl _ _))
    | 14, _ => exact v_orF 41 45 (opAtW ho (by kernel_rfl)) (hU 9 (by kernel_rfl) rfl) (hU 13 (by kernel_rfl) rfl) (hK _ (Below.refl _ _))
    | 15, _ => exact v_move 46 (opAtW ho (by kernel_rfl)) (hU 14 (by kernel_rfl) rfl) (hK _ (Below.refl _ _))
    | 16, _ => exact v_loadE 4 (opAtW ho (by kernel_rfl)) (hT0 4 _ (by decide) h4) (hg w hb) rfl (hK _ (Below.refl _ _))
    | 17, _ => exact v_bare 48 (opAtW ho (by kernel_rfl)) (hU 16 (by kernel_rfl) rfl) (H2 w hb) (fun w' hb' => hK w' hb')
    | 18, _ => exact v_loadE 4 (opAtW ho (by kernel_rfl)) (hT0 4 _ (by decide) h4) (hg w hb) rfl (hK _ (Below.refl _ _))
    | 19, _ => exact v_neqE 49 50 (opAtW ho (by kernel_rfl)) (hU 17 (by kernel_rfl) rfl) (hU 18 (by kernel_rfl) rfl) (c4) (hK _ (Below.refl _ _))
    | 20, _ => exact v_orF 47 51 (opAtW ho (by kernel_rfl)) (hU 15 (by kernel_rfl) rfl) (hU 19 (by kernel_rfl) rfl) (hK _ (Below.refl _ _))
    | 21, _ => exact v_move 52 (opAtW ho (by kernel_rfl)) (hU 20 (by kernel_rfl) rfl) (hK _ (Below.refl _ _))
    | 22, _ => exact v_field2 4 (opAtW ho (by kernel_rfl)) (hT0 4 _ (by decide) h4) (hK _ (Below.refl _ _))
    | 23, _ => exact s_loadI 54 (opAtW ho (by kernel_rfl)) (hU 22 (by kernel_rfl) rfl) (cell_of_row w g 2 _ _ _ (hg w hb)) (hK _ (Below.refl _ _))
    | 24, _ => exact v_lssc 55 (opAtW ho (by kernel_rfl)) (hU 23 (by kernel_rfl) rfl) (c5) (hK _ (Below.refl _ _))
    | 25, _ => exact v_orF 53 56 (opAtW ho (by kernel_rfl)) (hU 21 (by kernel_rfl) rfl) (hU 24 (by kernel_rfl) rfl) (hK _ (Below.refl _ _))
    | 26, _ => exact v_move 57 (opAtW ho (by kernel_rfl)) (hU 25 (by kernel_rfl) rfl) (hK _ (Below.refl _ _))
    | 27, _ => exact absurd hon (by decide)
    | 28, _ => exact absurd hon (by decide)
    | 29, _ => exact absurd hon (by decide)
    | 30, _ => exact v_orT 58 61 (opAtW ho (by kernel_rfl)) (hU 26 (by kernel_rfl) rfl) (hK _ (Below.refl _ _))
    | 31, _ => exact v_move 62 (opAtW ho (by kernel_rfl)) (hU 30 (by kernel_rfl) rfl) (hK _ (Below.refl _ _))
    | 32, _ => exact absurd hon (by decide)
    | 33, _ => exact absurd hon (by decide)
    | 34, _ => exact absurd hon (by decide)
    | 35, _ => exact v_orT 63 66 (opAtW ho (by kernel_rfl)) (hU 31 (by kernel_rfl) rfl) (hK _ (Below.refl _ _))
    | 36, _ => exact v_move 67 (opAtW ho (by kernel_rfl)) (hU 35 (by kernel_rfl) rfl) (hK _ (Below.refl _ _))
    | 37, _ => exact absurd hon (by decide)
    | 38, _ => exact absurd hon (by decide)
    | 39, _ => exact absurd hon (by decide)
    | 40, _ => exact v_orT 68 71 (opAtW ho (by kernel_rfl)) (hU 36 (by kernel_rfl) rfl) (hK _ (Below.refl _ _))
    | 41, _ => exact v_move 72 (opAtW ho (by kernel_rfl)) (hU 40 (by kernel_rfl) rfl) (hK _ (Below.refl _ _))
    | 42, _ => exact absurd hon (by decide)
    | 43, _ => exact absurd hon (by decide)
    | 44, _ => exact absurd hon (by decide)
    | 45, _ => exact v_orT 73 76 (opAtW ho (by kernel_rfl)) (hU 41 (by kernel_rfl) rfl) (hK _ (Below.refl _ _))
    | i + 46, h => exact absurd (show i + 46 < 46 from h) (by omega)
  · intro us w hu hb hv
    exact hend us w hu hb (hv 45 (by decide) rfl)
noncomputable def regR3_6_ops : Array Oper := opsW Tryd.f16 3
def regR3_6_ds : List Nat := [32, 33, 34, 35, 36, 37, 38, 39, 40, 41, 42, 43, 44, 45, 46, 47, 48, 49, 50, 51, 52, 53, 54, 55, 56, 57, 58, 59, 60, 61, 62, 63, 64, 65, 66, 67, 68, 69, 70, 71, 72, 73, 74, 75, 76, 77]
set_option maxRecDepth 100000 in
set_option maxHeartbeats 4000000 in
theorem regR3_6 {id : Nat} {ops : Array Oper} (hops : ops = regR3_6_ops) (T0 : Array Value) (hsz : 78 ≤ T0.size) (W : World) (g : Nat) (kn : Nat) (kd th tx pl v x why T b0 b1 b2 b3 b4 b5 b6 : Int) (hk : kd = kn) (hg : ∀ wx, Below W.heap.size W wx → wx.heap[g]? = some (.cells #[.int .u8 kd, .int .i64 th, .int .i64 tx, .int .i64 pl, .int .i64 v, .int .i64 x, .int .u8 why] 23 (0, 0))) (H1 : ∀ wx, Below W.heap.size W wx → Calls Tryd.prog 18 #[.int .u8 kd] wx fun r w' => r = .returned (.string (bsW (nmL kn))) ∧ Below wx.heap.size wx w') (H2 : ∀ wx, Below W.heap.size W wx → Calls Tryd.prog 39 #[.agg #[.int .u8 kd, .int .i64 th, .int .i64 tx, .int .i64 pl, .int .i64 v, .int .i64 x, .int .u8 why]] wx fun r w' => r = .returned (.agg #[.int .u8 b0, .int .i64 b1, .int .i64 b2, .int .i64 b3, .int .i64 b4, .int .i64 b5, .int .u8 b6]) ∧ Below wx.heap.size wx w') (c1 : (bsW (nmL kn)).toList.isEmpty = false) (c2 : decide (th < 0) = false) (c3 : decide (T ≤ th) = false) (c4 : (!(b0 == kd && (b1 == th && (b2 == tx && (b3 == pl && (b4 == v && (b5 == x && b6 == why))))))) = false) (c5 : decide (tx < 0) = false) (c6 : decide (6 ≤ tx) = true) (h1 : T0[1]? = some (.int .i64 T)) (h4 : T0[4]? = some (.pointer (some ⟨g, 0, none⟩))) {Q : Exit → Act → World → Prop}
    (hend : ∀ (us : List Value) (w : World), us.length = 46 → Below W.heap.size W w → us.getD 45 undef = .bool true → Q .normal ⟨putAll T0 regR3_6_ds us, []⟩ w) : (Code.region id ops true).wp Tryd.prog Q ⟨T0, []⟩ W := by
  subst hops
  have hos : regR3_6_ops.size = 46 := by kernel_rfl
  have hga : (List.range 46).all (fun i => match regR3_6_ops[i]? with | some o => o.guard == ([none, none, none, none, none, some (4, false), some (4, false), some (4, false), none, none, some (9, false), some (9, false), some (9, false), some (9, false), none, none, some (15, false), some (15, false), some (15, false), some (15, false), none, none, some (21, false), some (21, false), some (21, false), none, none, some (26, false), some (26, false), some (26, false), none, none, some (31, false), some (31, false), some (31, false), none, none, some (36, false), some (36, false), some (36, false), none, none, some (41, false), some (41, false), some (41, false), none] : List (Option (Nat × Bool))).getD i none | none => false) = true := by kernel_rfl
  refine wp_region_vals3 ([.pointer (some ⟨g, 0, none⟩), .int .u8 kd, .string (bsW (nmL kn)), .bool false, .bool false, .pointer (some ⟨g, 1, none⟩), .int .i64 th, .bool false, .bool false, .bool false, .pointer (some ⟨g, 1, none⟩), .int .i64 th, .int .i64 T, .bool false, .bool false, .bool false, .agg #[.int .u8 kd, .int .i64 th, .int .i64 tx, .int .i64 pl, .int .i64 v, .int .i64 x, .int .u8 why], .agg #[.int .u8 b0, .int .i64 b1, .int .i64 b2, .int .i64 b3, .int .i64 b4, .int .i64 b5, .int .u8 b6], .agg #[.int .u8 kd, .int .i64 th, .int .i64 tx, .int .i64 pl, .int .i64 v, .int .i64 x, .int .u8 why], .bool false, .bool false, .bool false, .pointer (some ⟨g, 2, none⟩), .int .i64 tx, .bool false, .bool false, .bool false, .pointer (some ⟨g, 2, none⟩), .int .i64 tx, .bool true, .bool true, .bool true, undef, undef, undef, .bool true, .bool true, undef, undef, undef, .bool true, .bool true, undef, undef, undef, .bool true] : List Value) [true, true, true, true, true, true, true, true, true, true, true, true, true, true, true, true, true, true, true, true, true, true, true, true, true, true, true, true, true, true, true, true, false, false, false, true, true, false, false, false, true, true, false, false, false, true] regR3_6_ds W T0 (by decide) (fun x hx => ?_) (by kernel_rfl) (by kernel_rfl) (fun i o j want ho hg => ?_) ?_ ?_
  · have hall : (regR3_6_ds.all fun d => decide (d < 78)) = true := by decide
    have := List.all_eq_true.1 hall x hx
    simp only [decide_eq_true_eq] at this
    omega
  · have hi : i < 46 := by rw [← hos]; exact (Array.getElem?_eq_some_iff.1 ho).1
    have h1 := List.all_eq_true.1 hga i (by simpa using hi)
    rw [ho] at h1
    simp only [hg, beq_iff_eq] at h1
    match i, hi with
    | 0, _ => cases h1
    | 1, _ => cases h1
    | 2, _ => cases h1
    | 3, _ => cases h1
    | 4, _ => cases h1
    | 5, _ => obtain ⟨rfl, rfl⟩ := Prod.mk.inj (Option.some.inj h1); rfl
    | 6, _ => obtain ⟨rfl, rfl⟩ := Prod.mk.inj (Option.some.inj h1); rfl
    | 7, _ => obtain ⟨rfl, rfl⟩ := Prod.mk.inj (Option.some.inj h1); rfl
    | 8, _ => cases h1
    | 9, _ => cases h1
    | 10, _ => obtain ⟨rfl, rfl⟩ := Prod.mk.inj (Option.some.inj h1); rfl
    | 11, _ => obtain ⟨rfl, rfl⟩ := Prod.mk.inj (Option.some.inj h1); rfl
    | 12, _ => obtain ⟨rfl, rfl⟩ := Prod.mk.inj (Option.some.inj h1); rfl
    | 13, _ => obtain ⟨rfl, rfl⟩ := Prod.mk.inj (Option.some.inj h1); rfl
    | 14, _ => cases h1
    | 15, _ => cases h1
    | 16, _ => obtain ⟨rfl, rfl⟩ := Prod.mk.inj (Option.some.inj h1); rfl
    | 17, _ => obtain ⟨rfl, rfl⟩ := Prod.mk.inj (Option.some.inj h1); rfl
    | 18, _ => obtain ⟨rfl, rfl⟩ := Prod.mk.inj (Option.some.inj h1); rfl
    | 19, _ => obtain ⟨rfl, rfl⟩ := Prod.mk.inj (Option.some.inj h1); rfl
    | 20, _ => cases h1
    | 21, _ => cases h1
    | 22, _ => obtain ⟨rfl, rfl⟩ := Prod.mk.inj (Option.some.inj h1); rfl
    | 23, _ => obtain ⟨rfl, rfl⟩ := Prod.mk.inj (Option.some.inj h1); rfl
    | 24, _ => obtain ⟨rfl, rfl⟩ := Prod.mk.inj (Option.some.inj h1); rfl
    | 25, _ => cases h1
    | 26, _ => cases h1
    | 27, _ => obtain ⟨rfl, rfl⟩ := Prod.mk.inj (Option.some.inj h1); rfl
    | 28, _ => obtain ⟨rfl, rfl⟩ := Prod.mk.inj (Option.some.inj h1); rfl
    | 29, _ => obtain ⟨rfl, rfl⟩ := Prod.mk.inj (Option.some.inj h1); rfl
    | 30, _ => cases h1
    | 31, _ => cases h1
    | 32, _ => obtain ⟨rfl, rfl⟩ := Prod.mk.inj (Option.some.inj h1); rfl
    | 33, _ => obtain ⟨rfl, rfl⟩ := Prod.mk.inj (Option.some.inj h1); rfl
    | 34, _ => obtain ⟨rfl, rfl⟩ := Prod.mk.inj (Option.some.inj h1); rfl
    | 35, _ => cases h1
    | 36, _ => cases h1
    | 37, _ => obtain ⟨rfl, rfl⟩ := Prod.mk.inj (Option.some.inj h1); rfl
    | 38, _ => obtain ⟨rfl, rfl⟩ := Prod.mk.inj (Option.some.inj h1); rfl
    | 39, _ => obtain ⟨rfl, rfl⟩ := Prod.mk.inj (Option.some.inj h1); rfl
    | 40, _ => cases h1
    | 41, _ => cases h1
    | 42, _ => obtain ⟨rfl, rfl⟩ := Prod.mk.inj (Option.some.inj h1); rfl
    | 43, _ => obtain ⟨rfl, rfl⟩ := Prod.mk.inj (Option.some.inj h1); rfl
    | 44, _ => obtain ⟨rfl, rfl⟩ := Prod.mk.inj (Option.some.inj h1); rfl
    | 45, _ => cases h1
    | i + 46, h => exact absurd (show i + 46 < 46 from h) (by omega)
  · intro i o ho hi hon a w hT hU hb K hK
    have hT0 : ∀ t v, t ∉ regR3_6_ds → T0[t]? = some v → a.tmps[t]?.getD undef = v := fun t v ht hv => by rw [hT t ht, hv]; rfl
    match i, hi with
    | 0, _ => exact v_field0 4 (opAtW ho (by kernel_rfl)) (hT0 4 _ (by decide) h4) (hK _ (Below.refl _ _))
    | 1, _ => exact v_loadB 32 (opAtW ho (by kernel_rfl)) (hU 0 (by kernel_rfl) rfl) (cell_of_row w g 0 _ _ _ (hg w hb)) (hK _ (Below.refl _ _))
    | 2, _ => exact v_nameR 33 (opAtW ho (by kernel_rfl)) (hU 1 (by kernel_rfl) rfl) (H1 w hb) (fun w' hb' => hK w' hb')
    | 3, _ => exact v_eqlsc 34 (opAtW ho (by kernel_rfl)) (hU 2 (by kernel_rfl) rfl) (c1) (hK _ (Below.refl _ _))
    | 4, _ => exact v_move 35 (opAtW ho (by kernel_rfl)) (hU 3 (by kernel_rfl) rfl) (hK _ (Below.refl _ _))
    | 5, _ => exact v_field1 4 (opAtW ho (by kernel_rfl)) (hT0 4 _ (by decide) h4) (hK _ (Below.refl _ _))
    | 6, _ => exact s_loadI 37 (opAtW ho (by kernel_rfl)) (hU 5 (by kernel_rfl) rfl) (cell_of_row w g 1 _ _ _ (hg w hb)) (hK _ (Below.refl _ _))
    | 7, _ => exact v_lssc 38 (opAtW ho (by kernel_rfl)) (hU 6 (by kernel_rfl) rfl) (c2) (hK _ (Below.refl _ _))
    | 8, _ => exact v_orF 36 39 (opAtW ho (by kernel_rfl)) (hU 4 (by kernel_rfl) rfl) (hU 7 (by kernel_rfl) rfl) (hK _ (Below.refl _ _))
    | 9, _ => exact v_move 40 (opAtW ho (by kernel_rfl)) (hU 8 (by kernel_rfl) rfl) (hK _ (Below.refl _ _))
    | 10, _ => exact v_field1 4 (opAtW ho (by kernel_rfl)) (hT0 4 _ (by decide) h4) (hK _ (Below.refl _ _))
    | 11, _ => exact s_loadI 42 (opAtW ho (by kernel_rfl)) (hU 10 (by kernel_rfl) rfl) (cell_of_row w g 1 _ _ _ (hg w hb)) (hK _ (Below.refl _ _))
    | 12, _ => exact v_move 1 (opAtW ho (by kernel_rfl)) (hT0 1 _ (by decide) h1) (hK _ (Below.refl _ _))
    | 13, _ => exact v_geq 43 44 (opAtW ho (by kernel_rfl)) (hU 11 (by kernel_rfl) rfl) (hU 12 (by kernel_rfl) rfl) (c3) (hK _ (Below.refl _ _))
    | 14, _ => exact v_orF 41 45 (opAtW ho (by kernel_rfl)) (hU 9 (by kernel_rfl) rfl) (hU 13 (by kernel_rfl) rfl) (hK _ (Below.refl _ _))
    | 15, _ => exact v_move 46 (opAtW ho (by kernel_rfl)) (hU 14 (by kernel_rfl) rfl) (hK _ (Below.refl _ _))
    | 16, _ => exact v_loadE 4 (opAtW ho (by kernel_rfl)) (hT0 4 _ (by decide) h4) (hg w hb) rfl (hK _ (Below.refl _ _))
    | 17, _ => exact v_bare 48 (opAtW ho (by kernel_rfl)) (hU 16 (by kernel_rfl) rfl) (H2 w hb) (fun w' hb' => hK w' hb')
    | 18, _ => exact v_loadE 4 (opAtW ho (by kernel_rfl)) (hT0 4 _ (by decide) h4) (hg w hb) rfl (hK _ (Below.refl _ _))
    | 19, _ => exact v_neqE 49 50 (opAtW ho (by kernel_rfl)) (hU 17 (by kernel_rfl) rfl) (hU 18 (by kernel_rfl) rfl) (c4) (hK _ (Below.refl _ _))
    | 20, _ => exact v_orF 47 51 (opAtW ho (by kernel_rfl)) (hU 15 (by kernel_rfl) rfl) (hU 19 (by kernel_rfl) rfl) (hK _ (Below.refl _ _))
    | 21, _ => exact v_move 52 (opAtW ho (by kernel_rfl)) (hU 20 (by kernel_rfl) rfl) (hK _ (Below.refl _ _))
    | 22, _ => exact v_field2 4 (opAtW ho (by kernel_rfl)) (hT0 4 _ (by decide) h4) (hK _ (Below.refl _ _))
    | 23, _ => exact s_loadI 54 (opAtW ho (by kernel_rfl)) (hU 22 (by kernel_rfl) rfl) (cell_of_row w g 2 _ _ _ (hg w hb)) (hK _ (Below.refl _ _))
    | 24, _ => exact v_lssc 55 (opAtW ho (by kernel_rfl)) (hU 23 (by kernel_rfl) rfl) (c5) (hK _ (Below.refl _ _))
    | 25, _ => exact v_orF 53 56 (opAtW ho (by kernel_rfl)) (hU 21 (by kernel_rfl) rfl) (hU 24 (by kernel_rfl) rfl) (hK _ (Below.refl _ _))
    | 26, _ => exact v_move 57 (opAtW ho (by kernel_rfl)) (hU 25 (by kernel_rfl) rfl) (hK _ (Below.refl _ _))
    | 27, _ => exact v_field2 4 (opAtW ho (by kernel_rfl)) (hT0 4 _ (by decide) h4) (hK _ (Below.refl _ _))
    | 28, _ => exact s_loadI 59 (opAtW ho (by kernel_rfl)) (hU 27 (by kernel_rfl) rfl) (cell_of_row w g 2 _ _ _ (hg w hb)) (hK _ (Below.refl _ _))
    | 29, _ => exact v_geqc 60 (opAtW ho (by kernel_rfl)) (hU 28 (by kernel_rfl) rfl) (c6) (hK _ (Below.refl _ _))
    | 30, _ => exact v_orF 58 61 (opAtW ho (by kernel_rfl)) (hU 26 (by kernel_rfl) rfl) (hU 29 (by kernel_rfl) rfl) (hK _ (Below.refl _ _))
    | 31, _ => exact v_move 62 (opAtW ho (by kernel_rfl)) (hU 30 (by kernel_rfl) rfl) (hK _ (Below.refl _ _))
    | 32, _ => exact absurd hon (by decide)
    | 33, _ => exact absurd hon (by decide)
    | 34, _ => exact absurd hon (by decide)
    | 35, _ => exact v_orT 63 66 (opAtW ho (by kernel_rfl)) (hU 31 (by kernel_rfl) rfl) (hK _ (Below.refl _ _))
    | 36, _ => exact v_move 67 (opAtW ho (by kernel_rfl)) (hU 35 (by kernel_rfl) rfl) (hK _ (Below.refl _ _))
    | 37, _ => exact absurd hon (by decide)
    | 38, _ => exact absurd hon (by decide)
    | 39, _ => exact absurd hon (by decide)
    | 40, _ => exact v_orT 68 71 (opAtW ho (by kernel_rfl)) (hU 36 (by kernel_rfl) rfl) (hK _ (Below.refl _ _))
    | 41, _ => exact v_move 72 (opAtW ho (by kernel_rfl)) (hU 40 (by kernel_rfl) rfl) (hK _ (Below.refl _ _))
    | 42, _ => exact absurd hon (by decide)
    | 43, _ => exact absurd hon (by decide)
    | 44, _ => exact absurd hon (by decide)
    | 45, _ => exact v_orT 73 76 (opAtW ho (by kernel_rfl)) (hU 41 (by kernel_rfl) rfl) (hK _ (Below.refl _ _))
    | i + 46, h => exact absurd (show i + 46 < 46 from h) (by omega)
  · intro us w hu hb hv
    exact hend us w hu hb (hv 45 (by decide) rfl)
noncomputable def regR3_7_ops : Array Oper := opsW Tryd.f16 3
def regR3_7_ds : List Nat := [32, 33, 34, 35, 36, 37, 38, 39, 40, 41, 42, 43, 44, 45, 46, 47, 48, 49, 50, 51, 52, 53, 54, 55, 56, 57, 58, 59, 60, 61, 62, 63, 64, 65, 66, 67, 68, 69, 70, 71, 72, 73, 74, 75, 76, 77]
set_option maxRecDepth 100000 in
set_option maxHeartbeats 4000000 in
theorem regR3_7 {id : Nat} {ops : Array Oper} (hops : ops = regR3_7_ops) (T0 : Array Value) (hsz : 78 ≤ T0.size) (W : World) (g : Nat) (kn : Nat) (kd th tx pl v x why T b0 b1 b2 b3 b4 b5 b6 : Int) (hk : kd = kn) (hg : ∀ wx, Below W.heap.size W wx → wx.heap[g]? = some (.cells #[.int .u8 kd, .int .i64 th, .int .i64 tx, .int .i64 pl, .int .i64 v, .int .i64 x, .int .u8 why] 23 (0, 0))) (H1 : ∀ wx, Below W.heap.size W wx → Calls Tryd.prog 18 #[.int .u8 kd] wx fun r w' => r = .returned (.string (bsW (nmL kn))) ∧ Below wx.heap.size wx w') (H2 : ∀ wx, Below W.heap.size W wx → Calls Tryd.prog 39 #[.agg #[.int .u8 kd, .int .i64 th, .int .i64 tx, .int .i64 pl, .int .i64 v, .int .i64 x, .int .u8 why]] wx fun r w' => r = .returned (.agg #[.int .u8 b0, .int .i64 b1, .int .i64 b2, .int .i64 b3, .int .i64 b4, .int .i64 b5, .int .u8 b6]) ∧ Below wx.heap.size wx w') (c1 : (bsW (nmL kn)).toList.isEmpty = false) (c2 : decide (th < 0) = false) (c3 : decide (T ≤ th) = false) (c4 : (!(b0 == kd && (b1 == th && (b2 == tx && (b3 == pl && (b4 == v && (b5 == x && b6 == why))))))) = false) (c5 : decide (tx < 0) = false) (c6 : decide (6 ≤ tx) = false) (c7 : decide (v < 0) = true) (h1 : T0[1]? = some (.int .i64 T)) (h4 : T0[4]? = some (.pointer (some ⟨g, 0, none⟩))) {Q : Exit → Act → World → Prop}
    (hend : ∀ (us : List Value) (w : World), us.length = 46 → Below W.heap.size W w → us.getD 45 undef = .bool true → Q .normal ⟨putAll T0 regR3_7_ds us, []⟩ w) : (Code.region id ops true).wp Tryd.prog Q ⟨T0, []⟩ W := by
  subst hops
  have hos : regR3_7_ops.size = 46 := by kernel_rfl
  have hga : (List.range 46).all (fun i => match regR3_7_ops[i]? with | some o => o.guard == ([none, none, none, none, none, some (4, false), some (4, false), some (4, false), none, none, some (9, false), some (9, false), some (9, false), some (9, false), none, none, some (15, false), some (15, false), some (15, false), some (15, false), none, none, some (21, false), some (21, false), some (21, false), none, none, some (26, false), some (26, false), some (26, false), none, none, some (31, false), some (31, false), some (31, false), none, none, some (36, false), some (36, false), some (36, false), none, none, some (41, false), some (41, false), some (41, false), none] : List (Option (Nat × Bool))).getD i none | none => false) = true := by kernel_rfl
  refine wp_region_vals3 ([.pointer (some ⟨g, 0, none⟩), .int .u8 kd, .string (bsW (nmL kn)), .bool false, .bool false, .pointer (some ⟨g, 1, none⟩), .int .i64 th, .bool false, .bool false, .bool false, .pointer (some ⟨g, 1, none⟩), .int .i64 th, .int .i64 T, .bool false, .bool false, .bool false, .agg #[.int .u8 kd, .int .i64 th, .int .i64 tx, .int .i64 pl, .int .i64 v, .int .i64 x, .int .u8 why], .agg #[.int .u8 b0, .int .i64 b1, .int .i64 b2, .int .i64 b3, .int .i64 b4, .int .i64 b5, .int .u8 b6], .agg #[.int .u8 kd, .int .i64 th, .int .i64 tx, .int .i64 pl, .int .i64 v, .int .i64 x, .int .u8 why], .bool false, .bool false, .bool false, .pointer (some ⟨g, 2, none⟩), .int .i64 tx, .bool false, .bool false, .bool false, .pointer (some ⟨g, 2, none⟩), .int .i64 tx, .bool false, .bool false, .bool false, .pointer (some ⟨g, 4, none⟩), .int .i64 v, .bool true, .bool true, .bool true, undef, undef, undef, .bool true, .bool true, undef, undef, undef, .bool true] : List Value) [true, true, true, true, true, true, true, true, true, true, true, true, true, true, true, true, true, true, true, true, true, true, true, true, true, true, true, true, true, true, true, true, true, true, true, true, true, false, false, false, true, true, false, false, false, true] regR3_7_ds W T0 (by decide) (fun x hx => ?_) (by kernel_rfl) (by kernel_rfl) (fun i o j want ho hg => ?_) ?_ ?_
  · have hall : (regR3_7_ds.all fun d => decide (d < 78)) = true := by decide
    have := List.all_eq_true.1 hall x hx
    simp only [decide_eq_true_eq] at this
    omega
  · have hi : i < 46 := by rw [← hos]; exact (Array.getElem?_eq_some_iff.1 ho).1
    have h1 := List.all_eq_true.1 hga i (by simpa using hi)
    rw [ho] at h1
    simp only [hg, beq_iff_eq] at h1
    match i, hi with
    | 0, _ => cases h1
    | 1, _ => cases h1
    | 2, _ => cases h1
    | 3, _ => cases h1
    | 4, _ => cases h1
    | 5, _ => obtain ⟨rfl, rfl⟩ := Prod.mk.inj (Option.some.inj h1); rfl
    | 6, _ => obtain ⟨rfl, rfl⟩ := Prod.mk.inj (Option.some.inj h1); rfl
    | 7, _ => obtain ⟨rfl, rfl⟩ := Prod.mk.inj (Option.some.inj h1); rfl
    | 8, _ => cases h1
    | 9, _ => cases h1
    | 10, _ => obtain ⟨rfl, rfl⟩ := Prod.mk.inj (Option.some.inj h1); rfl
    | 11, _ => obtain ⟨rfl, rfl⟩ := Prod.mk.inj (Option.some.inj h1); rfl
    | 12, _ => obtain ⟨rfl, rfl⟩ := Prod.mk.inj (Option.some.inj h1); rfl
    | 13, _ => obtain ⟨rfl, rfl⟩ := Prod.mk.inj (Option.some.inj h1); rfl
    | 14, _ => cases h1
    | 15, _ => cases h1
    | 16, _ => obtain ⟨rfl, rfl⟩ := Prod.mk.inj (Option.some.inj h1); rfl
    | 17, _ => obtain ⟨rfl, rfl⟩ := Prod.mk.inj (Option.some.inj h1); rfl
    | 18, _ => obtain ⟨rfl, rfl⟩ := Prod.mk.inj (Option.some.inj h1); rfl
    | 19, _ => obtain ⟨rfl, rfl⟩ := Prod.mk.inj (Option.some.inj h1); rfl
    | 20, _ => cases h1
    | 21, _ => cases h1
    | 22, _ => obtain ⟨rfl, rfl⟩ := Prod.mk.inj (Option.some.inj h1); rfl
    | 23, _ => obtain ⟨rfl, rfl⟩ := Prod.mk.inj (Option.some.inj h1); rfl
    | 24, _ => obtain ⟨rfl, rfl⟩ := Prod.mk.inj (Option.some.inj h1); rfl
    | 25, _ => cases h1
    | 26, _ => cases h1
    | 27, _ => obtain ⟨rfl, rfl⟩ := Prod.mk.inj (Option.some.inj h1); rfl
    | 28, _ => obtain ⟨rfl, rfl⟩ := Prod.mk.inj (Option.some.inj h1); rfl
    | 29, _ => obtain ⟨rfl, rfl⟩ := Prod.mk.inj (Option.some.inj h1); rfl
    | 30, _ => cases h1
    | 31, _ => cases h1
    | 32, _ => obtain ⟨rfl, rfl⟩ := Prod.mk.inj (Option.some.inj h1); rfl
    | 33, _ => obtain ⟨rfl, rfl⟩ := Prod.mk.inj (Option.some.inj h1); rfl
    | 34, _ => obtain ⟨rfl, rfl⟩ := Prod.mk.inj (Option.some.inj h1); rfl
    | 35, _ => cases h1
    | 36, _ => cases h1
    | 37, _ => obtain ⟨rfl, rfl⟩ := Prod.mk.inj (Option.some.inj h1); rfl
    | 38, _ => obtain ⟨rfl, rfl⟩ := Prod.mk.inj (Option.some.inj h1); rfl
    | 39, _ => obtain ⟨rfl, rfl⟩ := Prod.mk.inj (Option.some.inj h1); rfl
    | 40, _ => cases h1
    | 41, _ => cases h1
    | 42, _ => obtain ⟨rfl, rfl⟩ := Prod.mk.inj (Option.some.inj h1); rfl
    | 43, _ => obtain ⟨rfl, rfl⟩ := Prod.mk.inj (Option.some.inj h1); rfl
    | 44, _ => obtain ⟨rfl, rfl⟩ := Prod.mk.inj (Option.some.inj h1); rfl
    | 45, _ => cases h1
    | i + 46, h => exact absurd (show i + 46 < 46 from h) (by omega)
  · intro i o ho hi hon a w hT hU hb K hK
    have hT0 : ∀ t v, t ∉ regR3_7_ds → T0[t]? = some v → a.tmps[t]?.getD undef = v := fun t v ht hv => by rw [hT t ht, hv]; rfl
    match i, hi with
    | 0, _ => exact v_field0 4 (opAtW ho (by kernel_rfl)) (hT0 4 _ (by decide) h4) (hK _ (Below.refl _ _))
    | 1, _ => exact v_loadB 32 (opAtW ho (by kernel_rfl)) (hU 0 (by kernel_rfl) rfl) (cell_of_row w g 0 _ _ _ (hg w hb)) (hK _ (Below.refl _ _))
    | 2, _ => exact v_nameR 33 (opAtW ho (by kernel_rfl)) (hU 1 (by kernel_rfl) rfl) (H1 w hb) (fun w' hb' => hK w' hb')
    | 3, _ => exact v_eqlsc 34 (opAtW ho (by kernel_rfl)) (hU 2 (by kernel_rfl) rfl) (c1) (hK _ (Below.refl _ _))
    | 4, _ => exact v_move 35 (opAtW ho (by kernel_rfl)) (hU 3 (by kernel_rfl) rfl) (hK _ (Below.refl _ _))
    | 5, _ => exact v_field1 4 (opAtW ho (by kernel_rfl)) (hT0 4 _ (by decide) h4) (hK _ (Below.refl _ _))
    | 6, _ => exact s_loadI 37 (opAtW ho (by kernel_rfl)) (hU 5 (by kernel_rfl) rfl) (cell_of_row w g 1 _ _ _ (hg w hb)) (hK _ (Below.refl _ _))
    | 7, _ => exact v_lssc 38 (opAtW ho (by kernel_rfl)) (hU 6 (by kernel_rfl) rfl) (c2) (hK _ (Below.refl _ _))
    | 8, _ => exact v_orF 36 39 (opAtW ho (by kernel_rfl)) (hU 4 (by kernel_rfl) rfl) (hU 7 (by kernel_rfl) rfl) (hK _ (Below.refl _ _))
    | 9, _ => exact v_move 40 (opAtW ho (by kernel_rfl)) (hU 8 (by kernel_rfl) rfl) (hK _ (Below.refl _ _))
    | 10, _ => exact v_field1 4 (opAtW ho (by kernel_rfl)) (hT0 4 _ (by decide) h4) (hK _ (Below.refl _ _))
    | 11, _ => exact s_loadI 42 (opAtW ho (by kernel_rfl)) (hU 10 (by kernel_rfl) rfl) (cell_of_row w g 1 _ _ _ (hg w hb)) (hK _ (Below.refl _ _))
    | 12, _ => exact v_move 1 (opAtW ho (by kernel_rfl)) (hT0 1 _ (by decide) h1) (hK _ (Below.refl _ _))
    | 13, _ => exact v_geq 43 44 (opAtW ho (by kernel_rfl)) (hU 11 (by kernel_rfl) rfl) (hU 12 (by kernel_rfl) rfl) (c3) (hK _ (Below.refl _ _))
    | 14, _ => exact v_orF 41 45 (opAtW ho (by kernel_rfl)) (hU 9 (by kernel_rfl) rfl) (hU 13 (by kernel_rfl) rfl) (hK _ (Below.refl _ _))
    | 15, _ => exact v_move 46 (opAtW ho (by kernel_rfl)) (hU 14 (by kernel_rfl) rfl) (hK _ (Below.refl _ _))
    | 16, _ => exact v_loadE 4 (opAtW ho (by kernel_rfl)) (hT0 4 _ (by decide) h4) (hg w hb) rfl (hK _ (Below.refl _ _))
    | 17, _ => exact v_bare 48 (opAtW ho (by kernel_rfl)) (hU 16 (by kernel_rfl) rfl) (H2 w hb) (fun w' hb' => hK w' hb')
    | 18, _ => exact v_loadE 4 (opAtW ho (by kernel_rfl)) (hT0 4 _ (by decide) h4) (hg w hb) rfl (hK _ (Below.refl _ _))
    | 19, _ => exact v_neqE 49 50 (opAtW ho (by kernel_rfl)) (hU 17 (by kernel_rfl) rfl) (hU 18 (by kernel_rfl) rfl) (c4) (hK _ (Below.refl _ _))
    | 20, _ => exact v_orF 47 51 (opAtW ho (by kernel_rfl)) (hU 15 (by kernel_rfl) rfl) (hU 19 (by kernel_rfl) rfl) (hK _ (Below.refl _ _))
    | 21, _ => exact v_move 52 (opAtW ho (by kernel_rfl)) (hU 20 (by kernel_rfl) rfl) (hK _ (Below.refl _ _))
    | 22, _ => exact v_field2 4 (opAtW ho (by kernel_rfl)) (hT0 4 _ (by decide) h4) (hK _ (Below.refl _ _))
    | 23, _ => exact s_loadI 54 (opAtW ho (by kernel_rfl)) (hU 22 (by kernel_rfl) rfl) (cell_of_row w g 2 _ _ _ (hg w hb)) (hK _ (Below.refl _ _))
    | 24, _ => exact v_lssc 55 (opAtW ho (by kernel_rfl)) (hU 23 (by kernel_rfl) rfl) (c5) (hK _ (Below.refl _ _))
    | 25, _ => exact v_orF 53 56 (opAtW ho (by kernel_rfl)) (hU 21 (by kernel_rfl) rfl) (hU 24 (by kernel_rfl) rfl) (hK _ (Below.refl _ _))
    | 26, _ => exact v_move 57 (opAtW ho (by kernel_rfl)) (hU 25 (by kernel_rfl) rfl) (hK _ (Below.refl _ _))
    | 27, _ => exact v_field2 4 (opAtW ho (by kernel_rfl)) (hT0 4 _ (by decide) h4) (hK _ (Below.refl _ _))
    | 28, _ => exact s_loadI 59 (opAtW ho (by kernel_rfl)) (hU 27 (by kernel_rfl) rfl) (cell_of_row w g 2 _ _ _ (hg w hb)) (hK _ (Below.refl _ _))
    | 29, _ => exact v_geqc 60 (opAtW ho (by kernel_rfl)) (hU 28 (by kernel_rfl) rfl) (c6) (hK _ (Below.refl _ _))
    | 30, _ => exact v_orF 58 61 (opAtW ho (by kernel_rfl)) (hU 26 (by kernel_rfl) rfl) (hU 29 (by kernel_rfl) rfl) (hK _ (Below.refl _ _))
    | 31, _ => exact v_move 62 (opAtW ho (by kernel_rfl)) (hU 30 (by kernel_rfl) rfl) (hK _ (Below.refl _ _))
    | 32, _ => exact v_field4 4 (opAtW ho (by kernel_rfl)) (hT0 4 _ (by decide) h4) (hK _ (Below.refl _ _))
    | 33, _ => exact s_loadI 64 (opAtW ho (by kernel_rfl)) (hU 32 (by kernel_rfl) rfl) (cell_of_row w g 4 _ _ _ (hg w hb)) (hK _ (Below.refl _ _))
    | 34, _ => exact v_lssc 65 (opAtW ho (by kernel_rfl)) (hU 33 (by kernel_rfl) rfl) (c7) (hK _ (Below.refl _ _))
    | 35, _ => exact v_orF 63 66 (opAtW ho (by kernel_rfl)) (hU 31 (by kernel_rfl) rfl) (hU 34 (by kernel_rfl) rfl) (hK _ (Below.refl _ _))
    | 36, _ => exact v_move 67 (opAtW ho (by kernel_rfl)) (hU 35 (by kernel_rfl) rfl) (hK _ (Below.refl _ _))
    | 37, _ => exact absurd hon (by decide)
    | 38, _ => exact absurd hon (by decide)
    | 39, _ => exact absurd hon (by decide)
    | 40, _ => exact v_orT 68 71 (opAtW ho (by kernel_rfl)) (hU 36 (by kernel_rfl) rfl) (hK _ (Below.refl _ _))
    | 41, _ => exact v_move 72 (opAtW ho (by kernel_rfl)) (hU 40 (by kernel_rfl) rfl) (hK _ (Below.refl _ _))
    | 42, _ => exact absurd hon (by decide)
    | 43, _ => exact absurd hon (by decide)
    | 44, _ => exact absurd hon (by decide)
    | 45, _ => exact v_orT 73 76 (opAtW ho (by kernel_rfl)) (hU 41 (by kernel_rfl) rfl) (hK _ (Below.refl _ _))
    | i + 46, h => exact absurd (show i + 46 < 46 from h) (by omega)
  · intro us w hu hb hv
    exact hend us w hu hb (hv 45 (by decide) rfl)
noncomputable def regR3_8_ops : Array Oper := opsW Tryd.f16 3
def regR3_8_ds : List Nat := [32, 33, 34, 35, 36, 37, 38, 39, 40, 41, 42, 43, 44, 45, 46, 47, 48, 49, 50, 51, 52, 53, 54, 55, 56, 57, 58, 59, 60, 61, 62, 63, 64, 65, 66, 67, 68, 69, 70, 71, 72, 73, 74, 75, 76, 77]
set_option maxRecDepth 100000 in
set_option maxHeartbeats 4000000 in
theorem regR3_8 {id : Nat} {ops : Array Oper} (hops : ops = regR3_8_ops) (T0 : Array Value) (hsz : 78 ≤ T0.size) (W : World) (g : Nat) (kn : Nat) (kd th tx pl v x why T b0 b1 b2 b3 b4 b5 b6 : Int) (hk : kd = kn) (hg : ∀ wx, Below W.heap.size W wx → wx.heap[g]? = some (.cells #[.int .u8 kd, .int .i64 th, .int .i64 tx, .int .i64 pl, .int .i64 v, .int .i64 x, .int .u8 why] 23 (0, 0))) (H1 : ∀ wx, Below W.heap.size W wx → Calls Tryd.prog 18 #[.int .u8 kd] wx fun r w' => r = .returned (.string (bsW (nmL kn))) ∧ Below wx.heap.size wx w') (H2 : ∀ wx, Below W.heap.size W wx → Calls Tryd.prog 39 #[.agg #[.int .u8 kd, .int .i64 th, .int .i64 tx, .int .i64 pl, .int .i64 v, .int .i64 x, .int .u8 why]] wx fun r w' => r = .returned (.agg #[.int .u8 b0, .int .i64 b1, .int .i64 b2, .int .i64 b3, .int .i64 b4, .int .i64 b5, .int .u8 b6]) ∧ Below wx.heap.size wx w') (c1 : (bsW (nmL kn)).toList.isEmpty = false) (c2 : decide (th < 0) = false) (c3 : decide (T ≤ th) = false) (c4 : (!(b0 == kd && (b1 == th && (b2 == tx && (b3 == pl && (b4 == v && (b5 == x && b6 == why))))))) = false) (c5 : decide (tx < 0) = false) (c6 : decide (6 ≤ tx) = false) (c7 : decide (v < 0) = false) (c8 : decide (1099511627776 < v) = true) (h1 : T0[1]? = some (.int .i64 T)) (h4 : T0[4]? = some (.pointer (some ⟨g, 0, none⟩))) {Q : Exit → Act → World → Prop}
    (hend : ∀ (us : List Value) (w : World), us.length = 46 → Below W.heap.size W w → us.getD 45 undef = .bool true → Q .normal ⟨putAll T0 regR3_8_ds us, []⟩ w) : (Code.region id ops true).wp Tryd.prog Q ⟨T0, []⟩ W := by
  subst hops
  have hos : regR3_8_ops.size = 46 := by kernel_rfl
  have hga : (List.range 46).all (fun i => match regR3_8_ops[i]? with | some o => o.guard == ([none, none, none, none, none, some (4, false), some (4, false), some (4, false), none, none, some (9, false), some (9, false), some (9, false), some (9, false), none, none, some (15, false), some (15, false), some (15, false), some (15, false), none, none, some (21, false), some (21, false), some (21, false), none, none, some (26, false), some (26, false), some (26, false), none, none, some (31, false), some (31, false), some (31, false), none, none, some (36, false), some (36, false), some (36, false), none, none, some (41, false), some (41, false), some (41, false), none] : List (Option (Nat × Bool))).getD i none | none => false) = true := by kernel_rfl
  refine wp_region_vals3 ([.pointer (some ⟨g, 0, none⟩), .int .u8 kd, .string (bsW (nmL kn)), .bool false, .bool false, .pointer (some ⟨g, 1, none⟩), .int .i64 th, .bool false, .bool false, .bool false, .pointer (some ⟨g, 1, none⟩), .int .i64 th, .int .i64 T, .bool false, .bool false, .bool false, .agg #[.int .u8 kd, .int .i64 th, .int .i64 tx, .int .i64 pl, .int .i64 v, .int .i64 x, .int .u8 why], .agg #[.int .u8 b0, .int .i64 b1, .int .i64 b2, .int .i64 b3, .int .i64 b4, .int .i64 b5, .int .u8 b6], .agg #[.int .u8 kd, .int .i64 th, .int .i64 tx, .int .i64 pl, .int .i64 v, .int .i64 x, .int .u8 why], .bool false, .bool false, .bool false, .pointer (some ⟨g, 2, none⟩), .int .i64 tx, .bool false, .bool false, .bool false, .pointer (some ⟨g, 2, none⟩), .int .i64 tx, .bool false, .bool false, .bool false, .pointer (some ⟨g, 4, none⟩), .int .i64 v, .bool false, .bool false, .bool false, .pointer (some ⟨g, 4, none⟩), .int .i64 v, .bool true, .bool true, .bool true, undef, undef, undef, .bool true] : List Value) [true, true, true, true, true, true, true, true, true, true, true, true, true, true, true, true, true, true, true, true, true, true, true, true, true, true, true, true, true, true, true, true, true, true, true, true, true, true, true, true, true, true, false, false, false, true] regR3_8_ds W T0 (by decide) (fun x hx => ?_) (by kernel_rfl) (by kernel_rfl) (fun i o j want ho hg => ?_) ?_ ?_
  · have hall : (regR3_8_ds.all fun d => decide (d < 78)) = true := by decide
    have := List.all_eq_true.1 hall x hx
    simp only [decide_eq_true_eq] at this
    omega
  · have hi : i < 46 := by rw [← hos]; exact (Array.getElem?_eq_some_iff.1 ho).1
    have h1 := List.all_eq_true.1 hga i (by simpa using hi)
    rw [ho] at h1
    simp only [hg, beq_iff_eq] at h1
    match i, hi with
    | 0, _ => cases h1
    | 1, _ => cases h1
    | 2, _ => cases h1
    | 3, _ => cases h1
    | 4, _ => cases h1
    | 5, _ => obtain ⟨rfl, rfl⟩ := Prod.mk.inj (Option.some.inj h1); rfl
    | 6, _ => obtain ⟨rfl, rfl⟩ := Prod.mk.inj (Option.some.inj h1); rfl
    | 7, _ => obtain ⟨rfl, rfl⟩ := Prod.mk.inj (Option.some.inj h1); rfl
    | 8, _ => cases h1
    | 9, _ => cases h1
    | 10, _ => obtain ⟨rfl, rfl⟩ := Prod.mk.inj (Option.some.inj h1); rfl
    | 11, _ => obtain ⟨rfl, rfl⟩ := Prod.mk.inj (Option.some.inj h1); rfl
    | 12, _ => obtain ⟨rfl, rfl⟩ := Prod.mk.inj (Option.some.inj h1); rfl
    | 13, _ => obtain ⟨rfl, rfl⟩ := Prod.mk.inj (Option.some.inj h1); rfl
    | 14, _ => cases h1
    | 15, _ => cases h1
    | 16, _ => obtain ⟨rfl, rfl⟩ := Prod.mk.inj (Option.some.inj h1); rfl
    | 17, _ => obtain ⟨rfl, rfl⟩ := Prod.mk.inj (Option.some.inj h1); rfl
    | 18, _ => obtain ⟨rfl, rfl⟩ := Prod.mk.inj (Option.some.inj h1); rfl
    | 19, _ => obtain ⟨rfl, rfl⟩ := Prod.mk.inj (Option.some.inj h1); rfl
    | 20, _ => cases h1
    | 21, _ => cases h1
    | 22, _ => obtain ⟨rfl, rfl⟩ := Prod.mk.inj (Option.some.inj h1); rfl
    | 23, _ => obtain ⟨rfl, rfl⟩ := Prod.mk.inj (Option.some.inj h1); rfl
    | 24, _ => obtain ⟨rfl, rfl⟩ := Prod.mk.inj (Option.some.inj h1); rfl
    | 25, _ => cases h1
    | 26, _ => cases h1
    | 27, _ => obtain ⟨rfl, rfl⟩ := Prod.mk.inj (Option.some.inj h1); rfl
    | 28, _ => obtain ⟨rfl, rfl⟩ := Prod.mk.inj (Option.some.inj h1); rfl
    | 29, _ => obtain ⟨rfl, rfl⟩ := Prod.mk.inj (Option.some.inj h1); rfl
    | 30, _ => cases h1
    | 31, _ => cases h1
    | 32, _ => obtain ⟨rfl, rfl⟩ := Prod.mk.inj (Option.some.inj h1); rfl
    | 33, _ => obtain ⟨rfl, rfl⟩ := Prod.mk.inj (Option.some.inj h1); rfl
    | 34, _ => obtain ⟨rfl, rfl⟩ := Prod.mk.inj (Option.some.inj h1); rfl
    | 35, _ => cases h1
    | 36, _ => cases h1
    | 37, _ => obtain ⟨rfl, rfl⟩ := Prod.mk.inj (Option.some.inj h1); rfl
    | 38, _ => obtain ⟨rfl, rfl⟩ := Prod.mk.inj (Option.some.inj h1); rfl
    | 39, _ => obtain ⟨rfl, rfl⟩ := Prod.mk.inj (Option.some.inj h1); rfl
    | 40, _ => cases h1
    | 41, _ => cases h1
    | 42, _ => obtain ⟨rfl, rfl⟩ := Prod.mk.inj (Option.some.inj h1); rfl
    | 43, _ => obtain ⟨rfl, rfl⟩ := Prod.mk.inj (Option.some.inj h1); rfl
    | 44, _ => obtain ⟨rfl, rfl⟩ := Prod.mk.inj (Option.some.inj h1); rfl
    | 45, _ => cases h1
    | i + 46, h => exact absurd (show i + 46 < 46 from h) (by omega)
  · intro i o ho hi hon a w hT hU hb K hK
    have hT0 : ∀ t v, t ∉ regR3_8_ds → T0[t]? = some v → a.tmps[t]?.getD undef = v := fun t v ht hv => by rw [hT t ht, hv]; rfl
    match i, hi with
    | 0, _ => exact v_field0 4 (opAtW ho (by kernel_rfl)) (hT0 4 _ (by decide) h4) (hK _ (Below.refl _ _))
    | 1, _ => exact v_loadB 32 (opAtW ho (by kernel_rfl)) (hU 0 (by kernel_rfl) rfl) (cell_of_row w g 0 _ _ _ (hg w hb)) (hK _ (Below.refl _ _))
    | 2, _ => exact v_nameR 33 (opAtW ho (by kernel_rfl)) (hU 1 (by kernel_rfl) rfl) (H1 w hb) (fun w' hb' => hK w' hb')
    | 3, _ => exact v_eqlsc 34 (opAtW ho (by kernel_rfl)) (hU 2 (by kernel_rfl) rfl) (c1) (hK _ (Below.refl _ _))
    | 4, _ => exact v_move 35 (opAtW ho (by kernel_rfl)) (hU 3 (by kernel_rfl) rfl) (hK _ (Below.refl _ _))
    | 5, _ => exact v_field1 4 (opAtW ho (by kernel_rfl)) (hT0 4 _ (by decide) h4) (hK _ (Below.refl _ _))
    | 6, _ => exact s_loadI 37 (opAtW ho (by kernel_rfl)) (hU 5 (by kernel_rfl) rfl) (cell_of_row w g 1 _ _ _ (hg w hb)) (hK _ (Below.refl _ _))
    | 7, _ => exact v_lssc 38 (opAtW ho (by kernel_rfl)) (hU 6 (by kernel_rfl) rfl) (c2) (hK _ (Below.refl _ _))
    | 8, _ => exact v_orF 36 39 (opAtW ho (by kernel_rfl)) (hU 4 (by kernel_rfl) rfl) (hU 7 (by kernel_rfl) rfl) (hK _ (Below.refl _ _))
    | 9, _ => exact v_move 40 (opAtW ho (by kernel_rfl)) (hU 8 (by kernel_rfl) rfl) (hK _ (Below.refl _ _))
    | 10, _ => exact v_field1 4 (opAtW ho (by kernel_rfl)) (hT0 4 _ (by decide) h4) (hK _ (Below.refl _ _))
    | 11, _ => exact s_loadI 42 (opAtW ho (by kernel_rfl)) (hU 10 (by kernel_rfl) rfl) (cell_of_row w g 1 _ _ _ (hg w hb)) (hK _ (Below.refl _ _))
    | 12, _ => exact v_move 1 (opAtW ho (by kernel_rfl)) (hT0 1 _ (by decide) h1) (hK _ (Below.refl _ _))
    | 13, _ => exact v_geq 43 44 (opAtW ho (by kernel_rfl)) (hU 11 (by kernel_rfl) rfl) (hU 12 (by kernel_rfl) rfl) (c3) (hK _ (Below.refl _ _))
    | 14, _ => exact v_orF 41 45 (opAtW ho (by kernel_rfl)) (hU 9 (by kernel_rfl) rfl) (hU 13 (by kernel_rfl) rfl) (hK _ (Below.refl _ _))
    | 15, _ => exact v_move 46 (opAtW ho (by kernel_rfl)) (hU 14 (by kernel_rfl) rfl) (hK _ (Below.refl _ _))
    | 16, _ => exact v_loadE 4 (opAtW ho (by kernel_rfl)) (hT0 4 _ (by decide) h4) (hg w hb) rfl (hK _ (Below.refl _ _))
    | 17, _ => exact v_bare 48 (opAtW ho (by kernel_rfl)) (hU 16 (by kernel_rfl) rfl) (H2 w hb) (fun w' hb' => hK w' hb')
    | 18, _ => exact v_loadE 4 (opAtW ho (by kernel_rfl)) (hT0 4 _ (by decide) h4) (hg w hb) rfl (hK _ (Below.refl _ _))
    | 19, _ => exact v_neqE 49 50 (opAtW ho (by kernel_rfl)) (hU 17 (by kernel_rfl) rfl) (hU 18 (by kernel_rfl) rfl) (c4) (hK _ (Below.refl _ _))
    | 20, _ => exact v_orF 47 51 (opAtW ho (by kernel_rfl)) (hU 15 (by kernel_rfl) rfl) (hU 19 (by kernel_rfl) rfl) (hK _ (Below.refl _ _))
    | 21, _ => exact v_move 52 (opAtW ho (by kernel_rfl)) (hU 20 (by kernel_rfl) rfl) (hK _ (Below.refl _ _))
    | 22, _ => exact v_field2 4 (opAtW ho (by kernel_rfl)) (hT0 4 _ (by decide) h4) (hK _ (Below.refl _ _))
    | 23, _ => exact s_loadI 54 (opAtW ho (by kernel_rfl)) (hU 22 (by kernel_rfl) rfl) (cell_of_row w g 2 _ _ _ (hg w hb)) (hK _ (Below.refl _ _))
    | 24, _ => exact v_lssc 55 (opAtW ho (by kernel_rfl)) (hU 23 (by kernel_rfl) rfl) (c5) (hK _ (Below.refl _ _))
    | 25, _ => exact v_orF 53 56 (opAtW ho (by kernel_rfl)) (hU 21 (by kernel_rfl) rfl) (hU 24 (by kernel_rfl) rfl) (hK _ (Below.refl _ _))
    | 26, _ => exact v_move 57 (opAtW ho (by kernel_rfl)) (hU 25 (by kernel_rfl) rfl) (hK _ (Below.refl _ _))
    | 27, _ => exact v_field2 4 (opAtW ho (by kernel_rfl)) (hT0 4 _ (by decide) h4) (hK _ (Below.refl _ _))
    | 28, _ => exact s_loadI 59 (opAtW ho (by kernel_rfl)) (hU 27 (by kernel_rfl) rfl) (cell_of_row w g 2 _ _ _ (hg w hb)) (hK _ (Below.refl _ _))
    | 29, _ => exact v_geqc 60 (opAtW ho (by kernel_rfl)) (hU 28 (by kernel_rfl) rfl) (c6) (hK _ (Below.refl _ _))
    | 30, _ => exact v_orF 58 61 (opAtW ho (by kernel_rfl)) (hU 26 (by kernel_rfl) rfl) (hU 29 (by kernel_rfl) rfl) (hK _ (Below.refl _ _))
    | 31, _ => exact v_move 62 (opAtW ho (by kernel_rfl)) (hU 30 (by kernel_rfl) rfl) (hK _ (Below.refl _ _))
    | 32, _ => exact v_field4 4 (opAtW ho (by kernel_rfl)) (hT0 4 _ (by decide) h4) (hK _ (Below.refl _ _))
    | 33, _ => exact s_loadI 64 (opAtW ho (by kernel_rfl)) (hU 32 (by kernel_rfl) rfl) (cell_of_row w g 4 _ _ _ (hg w hb)) (hK _ (Below.refl _ _))
    | 34, _ => exact v_lssc 65 (opAtW ho (by kernel_rfl)) (hU 33 (by kernel_rfl) rfl) (c7) (hK _ (Below.refl _ _))
    | 35, _ => exact v_orF 63 66 (opAtW ho (by kernel_rfl)) (hU 31 (by kernel_rfl) rfl) (hU 34 (by kernel_rfl) rfl) (hK _ (Below.refl _ _))
    | 36, _ => exact v_move 67 (opAtW ho (by kernel_rfl)) (hU 35 (by kernel_rfl) rfl) (hK _ (Below.refl _ _))
    | 37, _ => exact v_field4 4 (opAtW ho (by kernel_rfl)) (hT0 4 _ (by decide) h4) (hK _ (Below.refl _ _))
    | 38, _ => exact s_loadI 69 (opAtW ho (by kernel_rfl)) (hU 37 (by kernel_rfl) rfl) (cell_of_row w g 4 _ _ _ (hg w hb)) (hK _ (Below.refl _ _))
    | 39, _ => exact v_gtrc 70 (opAtW ho (by kernel_rfl)) (hU 38 (by kernel_rfl) rfl) (c8) (hK _ (Below.refl _ _))
    | 40, _ => exact v_orF 68 71 (opAtW ho (by kernel_rfl)) (hU 36 (by kernel_rfl) rfl) (hU 39 (by kernel_rfl) rfl) (hK _ (Below.refl _ _))
    | 41, _ => exact v_move 72 (opAtW ho (by kernel_rfl)) (hU 40 (by kernel_rfl) rfl) (hK _ (Below.refl _ _))
    | 42, _ => exact absurd hon (by decide)
    | 43, _ => exact absurd hon (by decide)
    | 44, _ => exact absurd hon (by decide)
    | 45, _ => exact v_orT 73 76 (opAtW ho (by kernel_rfl)) (hU 41 (by kernel_rfl) rfl) (hK _ (Below.refl _ _))
    | i + 46, h => exact absurd (show i + 46 < 46 from h) (by omega)
  · intro us w hu hb hv
    exact hend us w hu hb (hv 45 (by decide) rfl)
noncomputable def regR3_9_ops : Array Oper := opsW Tryd.f16 3
def regR3_9_ds : List Nat := [32, 33, 34, 35, 36, 37, 38, 39, 40, 41, 42, 43, 44, 45, 46, 47, 48, 49, 50, 51, 52, 53, 54, 55, 56, 57, 58, 59, 60, 61, 62, 63, 64, 65, 66, 67, 68, 69, 70, 71, 72, 73, 74, 75, 76, 77]
set_option maxRecDepth 100000 in
set_option maxHeartbeats 4000000 in
theorem regR3_9 {id : Nat} {ops : Array Oper} (hops : ops = regR3_9_ops) (T0 : Array Value) (hsz : 78 ≤ T0.size) (W : World) (g : Nat) (kn : Nat) (kd th tx pl v x why T b0 b1 b2 b3 b4 b5 b6 : Int) (hk : kd = kn) (hg : ∀ wx, Below W.heap.size W wx → wx.heap[g]? = some (.cells #[.int .u8 kd, .int .i64 th, .int .i64 tx, .int .i64 pl, .int .i64 v, .int .i64 x, .int .u8 why] 23 (0, 0))) (H1 : ∀ wx, Below W.heap.size W wx → Calls Tryd.prog 18 #[.int .u8 kd] wx fun r w' => r = .returned (.string (bsW (nmL kn))) ∧ Below wx.heap.size wx w') (H2 : ∀ wx, Below W.heap.size W wx → Calls Tryd.prog 39 #[.agg #[.int .u8 kd, .int .i64 th, .int .i64 tx, .int .i64 pl, .int .i64 v, .int .i64 x, .int .u8 why]] wx fun r w' => r = .returned (.agg #[.int .u8 b0, .int .i64 b1, .int .i64 b2, .int .i64 b3, .int .i64 b4, .int .i64 b5, .int .u8 b6]) ∧ Below wx.heap.size wx w') (c1 : (bsW (nmL kn)).toList.isEmpty = false) (c2 : decide (th < 0) = false) (c3 : decide (T ≤ th) = false) (c4 : (!(b0 == kd && (b1 == th && (b2 == tx && (b3 == pl && (b4 == v && (b5 == x && b6 == why))))))) = false) (c5 : decide (tx < 0) = false) (c6 : decide (6 ≤ tx) = false) (c7 : decide (v < 0) = false) (c8 : decide (1099511627776 < v) = false) (c9 : decide (pl < 0) = true) (h1 : T0[1]? = some (.int .i64 T)) (h4 : T0[4]? = some (.pointer (some ⟨g, 0, none⟩))) {Q : Exit → Act → World → Prop}
    (hend : ∀ (us : List Value) (w : World), us.length = 46 → Below W.heap.size W w → us.getD 45 undef = .bool true → Q .normal ⟨putAll T0 regR3_9_ds us, []⟩ w) : (Code.region id ops true).wp Tryd.prog Q ⟨T0, []⟩ W := by
  subst hops
  have hos : regR3_9_ops.size = 46 := by kernel_rfl
  have hga : (List.range 46).all (fun i => match regR3_9_ops[i]? with | some o => o.guard == ([none, none, none, none, none, some (4, false), some (4, false), some (4, false), none, none, some (9, false), some (9, false), some (9, false), some (9, false), none, none, some (15, false), some (15, false), some (15, false), some (15, false), none, none, some (21, false), some (21, false), some (21, false), none, none, some (26, false), some (26, false), some (26, false), none, none, some (31, false), some (31, false), some (31, false), none, none, some (36, false), some (36, false), some (36, false), none, none, some (41, false), some (41, false), some (41, false), none] : List (Option (Nat × Bool))).getD i none | none => false) = true := by kernel_rfl
  refine wp_region_vals3 ([.pointer (some ⟨g, 0, none⟩), .int .u8 kd, .string (bsW (nmL kn)), .bool false, .bool false, .pointer (some ⟨g, 1, none⟩), .int .i64 th, .bool false, .bool false, .bool false, .pointer (some ⟨g, 1, none⟩), .int .i64 th, .int .i64 T, .bool false, .bool false, .bool false, .agg #[.int .u8 kd, .int .i64 th, .int .i64 tx, .int .i64 pl, .int .i64 v, .int .i64 x, .int .u8 why], .agg #[.int .u8 b0, .int .i64 b1, .int .i64 b2, .int .i64 b3, .int .i64 b4, .int .i64 b5, .int .u8 b6], .agg #[.int .u8 kd, .int .i64 th, .int .i64 tx, .int .i64 pl, .int .i64 v, .int .i64 x, .int .u8 why], .bool false, .bool false, .bool false, .pointer (some ⟨g, 2, none⟩), .int .i64 tx, .bool false, .bool false, .bool false, .pointer (some ⟨g, 2, none⟩), .int .i64 tx, .bool false, .bool false, .bool false, .pointer (some ⟨g, 4, none⟩), .int .i64 v, .bool false, .bool false, .bool false, .pointer (some ⟨g, 4, none⟩), .int .i64 v, .bool false, .bool false, .bool false, .pointer (some ⟨g, 3, none⟩), .int .i64 pl, .bool true, .bool true] : List Value) [true, true, true, true, true, true, true, true, true, true, true, true, true, true, true, true, true, true, true, true, true, true, true, true, true, true, true, true, true, true, true, true, true, true, true, true, true, true, true, true, true, true, true, true, true, true] regR3_9_ds W T0 (by decide) (fun x hx => ?_) (by kernel_rfl) (by kernel_rfl) (fun i o j want ho hg => ?_) ?_ ?_
  · have hall : (regR3_9_ds.all fun d => decide (d < 78)) = true := by decide
    have := List.all_eq_true.1 hall x hx
    simp only [decide_eq_true_eq] at this
    omega
  · have hi : i < 46 := by rw [← hos]; exact (Array.getElem?_eq_some_iff.1 ho).1
    have h1 := List.all_eq_true.1 hga i (by simpa using hi)
    rw [ho] at h1
    simp only [hg, beq_iff_eq] at h1
    match i, hi with
    | 0, _ => cases h1
    | 1, _ => cases h1
    | 2, _ => cases h1
    | 3, _ => cases h1
    | 4, _ => cases h1
    | 5, _ => obtain ⟨rfl, rfl⟩ := Prod.mk.inj (Option.some.inj h1); rfl
    | 6, _ => obtain ⟨rfl, rfl⟩ := Prod.mk.inj (Option.some.inj h1); rfl
    | 7, _ => obtain ⟨rfl, rfl⟩ := Prod.mk.inj (Option.some.inj h1); rfl
    | 8, _ => cases h1
    | 9, _ => cases h1
    | 10, _ => obtain ⟨rfl, rfl⟩ := Prod.mk.inj (Option.some.inj h1); rfl
    | 11, _ => obtain ⟨rfl, rfl⟩ := Prod.mk.inj (Option.some.inj h1); rfl
    | 12, _ => obtain ⟨rfl, rfl⟩ := Prod.mk.inj (Option.some.inj h1); rfl
    | 13, _ => obtain ⟨rfl, rfl⟩ := Prod.mk.inj (Option.some.inj h1); rfl
    | 14, _ => cases h1
    | 15, _ => cases h1
    | 16, _ => obtain ⟨rfl, rfl⟩ := Prod.mk.inj (Option.some.inj h1); rfl
    | 17, _ => obtain ⟨rfl, rfl⟩ := Prod.mk.inj (Option.some.inj h1); rfl
    | 18, _ => obtain ⟨rfl, rfl⟩ := Prod.mk.inj (Option.some.inj h1); rfl
    | 19, _ => obtain ⟨rfl, rfl⟩ := Prod.mk.inj (Option.some.inj h1); rfl
    | 20, _ => cases h1
    | 21, _ => cases h1
    | 22, _ => obtain ⟨rfl, rfl⟩ := Prod.mk.inj (Option.some.inj h1); rfl
    | 23, _ => obtain ⟨rfl, rfl⟩ := Prod.mk.inj (Option.some.inj h1); rfl
    | 24, _ => obtain ⟨rfl, rfl⟩ := Prod.mk.inj (Option.some.inj h1); rfl
    | 25, _ => cases h1
    | 26, _ => cases h1
    | 27, _ => obtain ⟨rfl, rfl⟩ := Prod.mk.inj (Option.some.inj h1); rfl
    | 28, _ => obtain ⟨rfl, rfl⟩ := Prod.mk.inj (Option.some.inj h1); rfl
    | 29, _ => obtain ⟨rfl, rfl⟩ := Prod.mk.inj (Option.some.inj h1); rfl
    | 30, _ => cases h1
    | 31, _ => cases h1
    | 32, _ => obtain ⟨rfl, rfl⟩ := Prod.mk.inj (Option.some.inj h1); rfl
    | 33, _ => obtain ⟨rfl, rfl⟩ := Prod.mk.inj (Option.some.inj h1); rfl
    | 34, _ => obtain ⟨rfl, rfl⟩ := Prod.mk.inj (Option.some.inj h1); rfl
    | 35, _ => cases h1
    | 36, _ => cases h1
    | 37, _ => obtain ⟨rfl, rfl⟩ := Prod.mk.inj (Option.some.inj h1); rfl
    | 38, _ => obtain ⟨rfl, rfl⟩ := Prod.mk.inj (Option.some.inj h1); rfl
    | 39, _ => obtain ⟨rfl, rfl⟩ := Prod.mk.inj (Option.some.inj h1); rfl
    | 40, _ => cases h1
    | 41, _ => cases h1
    | 42, _ => obtain ⟨rfl, rfl⟩ := Prod.mk.inj (Option.some.inj h1); rfl
    | 43, _ => obtain ⟨rfl, rfl⟩ := Prod.mk.inj (Option.some.inj h1); rfl
    | 44, _ => obtain ⟨rfl, rfl⟩ := Prod.mk.inj (Option.some.inj h1); rfl
    | 45, _ => cases h1
    | i + 46, h => exact absurd (show i + 46 < 46 from h) (by omega)
  · intro i o ho hi hon a w hT hU hb K hK
    have hT0 : ∀ t v, t ∉ regR3_9_ds → T0[t]? = some v → a.tmps[t]?.getD undef = v := fun t v ht hv => by rw [hT t ht, hv]; rfl
    match i, hi with
    | 0, _ => exact v_field0 4 (opAtW ho (by kernel_rfl)) (hT0 4 _ (by decide) h4) (hK _ (Below.refl _ _))
    | 1, _ => exact v_loadB 32 (opAtW ho (by kernel_rfl)) (hU 0 (by kernel_rfl) rfl) (cell_of_row w g 0 _ _ _ (hg w hb)) (hK _ (Below.refl _ _))
    | 2, _ => exact v_nameR 33 (opAtW ho (by kernel_rfl)) (hU 1 (by kernel_rfl) rfl) (H1 w hb) (fun w' hb' => hK w' hb')
    | 3, _ => exact v_eqlsc 34 (opAtW ho (by kernel_rfl)) (hU 2 (by kernel_rfl) rfl) (c1) (hK _ (Below.refl _ _))
    | 4, _ => exact v_move 35 (opAtW ho (by kernel_rfl)) (hU 3 (by kernel_rfl) rfl) (hK _ (Below.refl _ _))
    | 5, _ => exact v_field1 4 (opAtW ho (by kernel_rfl)) (hT0 4 _ (by decide) h4) (hK _ (Below.refl _ _))
    | 6, _ => exact s_loadI 37 (opAtW ho (by kernel_rfl)) (hU 5 (by kernel_rfl) rfl) (cell_of_row w g 1 _ _ _ (hg w hb)) (hK _ (Below.refl _ _))
    | 7, _ => exact v_lssc 38 (opAtW ho (by kernel_rfl)) (hU 6 (by kernel_rfl) rfl) (c2) (hK _ (Below.refl _ _))
    | 8, _ => exact v_orF 36 39 (opAtW ho (by kernel_rfl)) (hU 4 (by kernel_rfl) rfl) (hU 7 (by kernel_rfl) rfl) (hK _ (Below.refl _ _))
    | 9, _ => exact v_move 40 (opAtW ho (by kernel_rfl)) (hU 8 (by kernel_rfl) rfl) (hK _ (Below.refl _ _))
    | 10, _ => exact v_field1 4 (opAtW ho (by kernel_rfl)) (hT0 4 _ (by decide) h4) (hK _ (Below.refl _ _))
    | 11, _ => exact s_loadI 42 (opAtW ho (by kernel_rfl)) (hU 10 (by kernel_rfl) rfl) (cell_of_row w g 1 _ _ _ (hg w hb)) (hK _ (Below.refl _ _))
    | 12, _ => exact v_move 1 (opAtW ho (by kernel_rfl)) (hT0 1 _ (by decide) h1) (hK _ (Below.refl _ _))
    | 13, _ => exact v_geq 43 44 (opAtW ho (by kernel_rfl)) (hU 11 (by kernel_rfl) rfl) (hU 12 (by kernel_rfl) rfl) (c3) (hK _ (Below.refl _ _))
    | 14, _ => exact v_orF 41 45 (opAtW ho (by kernel_rfl)) (hU 9 (by kernel_rfl) rfl) (hU 13 (by kernel_rfl) rfl) (hK _ (Below.refl _ _))
    | 15, _ => exact v_move 46 (opAtW ho (by kernel_rfl)) (hU 14 (by kernel_rfl) rfl) (hK _ (Below.refl _ _))
    | 16, _ => exact v_loadE 4 (opAtW ho (by kernel_rfl)) (hT0 4 _ (by decide) h4) (hg w hb) rfl (hK _ (Below.refl _ _))
    | 17, _ => exact v_bare 48 (opAtW ho (by kernel_rfl)) (hU 16 (by kernel_rfl) rfl) (H2 w hb) (fun w' hb' => hK w' hb')
    | 18, _ => exact v_loadE 4 (opAtW ho (by kernel_rfl)) (hT0 4 _ (by decide) h4) (hg w hb) rfl (hK _ (Below.refl _ _))
    | 19, _ => exact v_neqE 49 50 (opAtW ho (by kernel_rfl)) (hU 17 (by kernel_rfl) rfl) (hU 18 (by kernel_rfl) rfl) (c4) (hK _ (Below.refl _ _))
    | 20, _ => exact v_orF 47 51 (opAtW ho (by kernel_rfl)) (hU 15 (by kernel_rfl) rfl) (hU 19 (by kernel_rfl) rfl) (hK _ (Below.refl _ _))
    | 21, _ => exact v_move 52 (opAtW ho (by kernel_rfl)) (hU 20 (by kernel_rfl) rfl) (hK _ (Below.refl _ _))
    | 22, _ => exact v_field2 4 (opAtW ho (by kernel_rfl)) (hT0 4 _ (by decide) h4) (hK _ (Below.refl _ _))
    | 23, _ => exact s_loadI 54 (opAtW ho (by kernel_rfl)) (hU 22 (by kernel_rfl) rfl) (cell_of_row w g 2 _ _ _ (hg w hb)) (hK _ (Below.refl _ _))
    | 24, _ => exact v_lssc 55 (opAtW ho (by kernel_rfl)) (hU 23 (by kernel_rfl) rfl) (c5) (hK _ (Below.refl _ _))
    | 25, _ => exact v_orF 53 56 (opAtW ho (by kernel_rfl)) (hU 21 (by kernel_rfl) rfl) (hU 24 (by kernel_rfl) rfl) (hK _ (Below.refl _ _))
    | 26, _ => exact v_move 57 (opAtW ho (by kernel_rfl)) (hU 25 (by kernel_rfl) rfl) (hK _ (Below.refl _ _))
    | 27, _ => exact v_field2 4 (opAtW ho (by kernel_rfl)) (hT0 4 _ (by decide) h4) (hK _ (Below.refl _ _))
    | 28, _ => exact s_loadI 59 (opAtW ho (by kernel_rfl)) (hU 27 (by kernel_rfl) rfl) (cell_of_row w g 2 _ _ _ (hg w hb)) (hK _ (Below.refl _ _))
    | 29, _ => exact v_geqc 60 (opAtW ho (by kernel_rfl)) (hU 28 (by kernel_rfl) rfl) (c6) (hK _ (Below.refl _ _))
    | 30, _ => exact v_orF 58 61 (opAtW ho (by kernel_rfl)) (hU 26 (by kernel_rfl) rfl) (hU 29 (by kernel_rfl) rfl) (hK _ (Below.refl _ _))
    | 31, _ => exact v_move 62 (opAtW ho (by kernel_rfl)) (hU 30 (by kernel_rfl) rfl) (hK _ (Below.refl _ _))
    | 32, _ => exact v_field4 4 (opAtW ho (by kernel_rfl)) (hT0 4 _ (by decide) h4) (hK _ (Below.refl _ _))
    | 33, _ => exact s_loadI 64 (opAtW ho (by kernel_rfl)) (hU 32 (by kernel_rfl) rfl) (cell_of_row w g 4 _ _ _ (hg w hb)) (hK _ (Below.refl _ _))
    | 34, _ => exact v_lssc 65 (opAtW ho (by kernel_rfl)) (hU 33 (by kernel_rfl) rfl) (c7) (hK _ (Below.refl _ _))
    | 35, _ => exact v_orF 63 66 (opAtW ho (by kernel_rfl)) (hU 31 (by kernel_rfl) rfl) (hU 34 (by kernel_rfl) rfl) (hK _ (Below.refl _ _))
    | 36, _ => exact v_move 67 (opAtW ho (by kernel_rfl)) (hU 35 (by kernel_rfl) rfl) (hK _ (Below.refl _ _))
    | 37, _ => exact v_field4 4 (opAtW ho (by kernel_rfl)) (hT0 4 _ (by decide) h4) (hK _ (Below.refl _ _))
    | 38, _ => exact s_loadI 69 (opAtW ho (by kernel_rfl)) (hU 37 (by kernel_rfl) rfl) (cell_of_row w g 4 _ _ _ (hg w hb)) (hK _ (Below.refl _ _))
    | 39, _ => exact v_gtrc 70 (opAtW ho (by kernel_rfl)) (hU 38 (by kernel_rfl) rfl) (c8) (hK _ (Below.refl _ _))
    | 40, _ => exact v_orF 68 71 (opAtW ho (by kernel_rfl)) (hU 36 (by kernel_rfl) rfl) (hU 39 (by kernel_rfl) rfl) (hK _ (Below.refl _ _))
    | 41, _ => exact v_move 72 (opAtW ho (by kernel_rfl)) (hU 40 (by kernel_rfl) rfl) (hK _ (Below.refl _ _))
    | 42, _ => exact v_field3 4 (opAtW ho (by kernel_rfl)) (hT0 4 _ (by decide) h4) (hK _ (Below.refl _ _))
    | 43, _ => exact s_loadI 74 (opAtW ho (by kernel_rfl)) (hU 42 (by kernel_rfl) rfl) (cell_of_row w g 3 _ _ _ (hg w hb)) (hK _ (Below.refl _ _))
    | 44, _ => exact v_lssc 75 (opAtW ho (by kernel_rfl)) (hU 43 (by kernel_rfl) rfl) (c9) (hK _ (Below.refl _ _))
    | 45, _ => exact v_orF 73 76 (opAtW ho (by kernel_rfl)) (hU 41 (by kernel_rfl) rfl) (hU 44 (by kernel_rfl) rfl) (hK _ (Below.refl _ _))
    | i + 46, h => exact absurd (show i + 46 < 46 from h) (by omega)
  · intro us w hu hb hv
    exact hend us w hu hb (hv 45 (by decide) rfl)
end Go.Proofs.YtfbnigikofidoaaDoor
