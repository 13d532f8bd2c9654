/-
  DRAWN REGIONS of package shape: comes, Next. Laid by gen/gen_su.py. Conditions: as they stand.
-/
import Derived.Test.YtnkkakcnlcmikaaDoorSt
namespace Go.Proofs.YtnkkakcnlcmikaaDoor
set_option maxRecDepth 100000
open Go.RowKit
set_option linter.unusedVariables false
set_option linter.unusedSimpArgs false
section
variable {a : Act} {w : World} {K : Act → World → Prop} {Q : Exit → Act → World → Prop} {o : Oper}
theorem u_extract0 (x : Nat) {u v : Value} (ho : o.op = .extract (.tmp x) 0) (hx : a.tmps[x]?.getD undef = .tuple #[u, v]) (hK : K (a.put o.dst u) w) : Oper.wp Tryd.prog o a w K Q := by
  obtain ⟨dst, op, type, pos, after, guard⟩ := o
  have ho' : op = _ := ho
  subst ho'
  clear ho
  go_simp
  exact hK
theorem u_extract1 (x : Nat) {u v : Value} (ho : o.op = .extract (.tmp x) 1) (hx : a.tmps[x]?.getD undef = .tuple #[u, v]) (hK : K (a.put o.dst v) w) : Oper.wp Tryd.prog o a w K Q := by
  obtain ⟨dst, op, type, pos, after, guard⟩ := o
  have ho' : op = _ := ho
  subst ho'
  clear ho
  go_simp
  exact hK
end
noncomputable def rgCm2_ops : Array Oper := opsW Tryd.f30 2
def rgCm2_D : List (Option Nat) := [some 16, some 17, some 18, some 19, some 20, some 21, some 22, some 15, some 23, some 24, some 6, some 7]
set_option maxRecDepth 100000 in
set_option maxHeartbeats 4000000 in
theorem rgCm2 {id : Nat} {ops : Array Oper} (hops : ops = rgCm2_ops) (T0 : Array Value) (hsz : 25 ≤ T0.size) (W : World) (g b : Nat) (S n : Int) (q : Bool) (kd th tx pl v x y : Int) (HE : ∀ w1, Below W.heap.size W w1 → w1.heap[b]? = some (.cells #[.int .u8 kd, .int .i64 th, .int .i64 tx, .int .i64 pl, .int .i64 v, .int .i64 x, .int .u8 y] 27 (0, 0))) (HS : ∀ w1, Below W.heap.size W w1 → w1.cell? ⟨g, 2, none⟩ = some (.int .i64 S)) (HA : Hid (∀ w1, Below W.heap.size W w1 → Calls Tryd.prog 43 #[.agg #[.int .u8 kd, .int .i64 th, .int .i64 tx, .int .i64 pl, .int .i64 v, .int .i64 x, .int .u8 y], .int .i64 S] w1 fun r w' => r = .returned (.tuple #[.int .i64 n, .bool q]) ∧ Below w1.heap.size w1 w')) (h0 : T0[0]? = some (.pointer (some ⟨g, 0, none⟩))) (h3 : T0[3]? = some (.pointer (some ⟨b, 0, none⟩))) {Q : Exit → Act → World → Prop}
    (hend : ∀ w : World, Below W.heap.size W w → Q .normal ⟨putAll T0 [16, 17, 18, 19, 20, 21, 22, 15, 23, 24, 6, 7] [.agg #[.int .u8 kd, .int .i64 th, .int .i64 tx, .int .i64 pl, .int .i64 v, .int .i64 x, .int .u8 y], .pointer (some ⟨g, 0, none⟩), .pointer (some ⟨g, 0, none⟩), .pointer (some ⟨g, 0, none⟩), .pointer (some ⟨g, 2, none⟩), .int .i64 S, .tuple #[.int .i64 n, .bool q], .tuple #[.int .i64 n, .bool q], .int .i64 n, .bool q, .int .i64 n, .bool q], []⟩ w) : (Code.region id ops true).wp Tryd.prog Q ⟨T0, []⟩ W := by
  subst hops
  have hos : rgCm2_ops.size = 12 := by kernel_rfl
  have hga : (List.range 12).all (fun i => match rgCm2_ops[i]? with | some o => o.guard == ([none, none, none, none, none, none, none, none, none, none, none, none] : List (Option (Nat × Bool))).getD i none | none => false) = true := by kernel_rfl
  have hds : ((pairsS rgCm2_D ([.agg #[.int .u8 kd, .int .i64 th, .int .i64 tx, .int .i64 pl, .int .i64 v, .int .i64 x, .int .u8 y], .pointer (some ⟨g, 0, none⟩), .pointer (some ⟨g, 0, none⟩), .pointer (some ⟨g, 0, none⟩), .pointer (some ⟨g, 2, none⟩), .int .i64 S, .tuple #[.int .i64 n, .bool q], .tuple #[.int .i64 n, .bool q], .int .i64 n, .bool q, .int .i64 n, .bool q] : List Value)).map (·.1)) = [16, 17, 18, 19, 20, 21, 22, 15, 23, 24, 6, 7] := rfl
  refine wp_region_valsG ([.agg #[.int .u8 kd, .int .i64 th, .int .i64 tx, .int .i64 pl, .int .i64 v, .int .i64 x, .int .u8 y], .pointer (some ⟨g, 0, none⟩), .pointer (some ⟨g, 0, none⟩), .pointer (some ⟨g, 0, none⟩), .pointer (some ⟨g, 2, none⟩), .int .i64 S, .tuple #[.int .i64 n, .bool q], .tuple #[.int .i64 n, .bool q], .int .i64 n, .bool q, .int .i64 n, .bool q] : List Value) [true, true, true, true, true, true, true, true, true, true, true, true] rgCm2_D (fun _ w => Below W.heap.size W w) W T0 (by rw [hds]; decide) (fun x hx => ?_) (by kernel_rfl) (by kernel_rfl) (fun i o j want ho hg => ?_) (fun i hi hon => ?_) (fun i hi hon don w hM => ?_) ?_ ?_ ?_
  · rw [hds] at hx
    have hall : (([16, 17, 18, 19, 20, 21, 22, 15, 23, 24, 6, 7] : List Nat).all fun d => decide (d < 25)) = true := by decide
    have := List.all_eq_true.1 hall x hx
    simp only [decide_eq_true_eq] at this
    omega
  · have hi : i < 12 := by rw [← hos]; exact (Array.getElem?_eq_some_iff.1 ho).1
    have h1 := List.all_eq_true.1 hga i (by simpa using hi)
    rw [ho] at h1
    simp only [hg, beq_iff_eq] at h1
    match i, hi with
    | 0, _ => cases h1
    | 1, _ => cases h1
    | 2, _ => cases h1
    | 3, _ => cases h1
    | 4, _ => cases h1
    | 5, _ => cases h1
    | 6, _ => cases h1
    | 7, _ => cases h1
    | 8, _ => cases h1
    | 9, _ => cases h1
    | 10, _ => cases h1
    | 11, _ => cases h1
    | i + 12, h => exact absurd (show i + 12 < 12 from h) (by omega)
  · match i, hi with
    | 0, _ => cases hon
    | 1, _ => cases hon
    | 2, _ => cases hon
    | 3, _ => cases hon
    | 4, _ => cases hon
    | 5, _ => cases hon
    | 6, _ => cases hon
    | 7, _ => cases hon
    | 8, _ => cases hon
    | 9, _ => cases hon
    | 10, _ => cases hon
    | 11, _ => cases hon
    | i + 12, h => exact absurd (show i + 12 < 12 from h) (by omega)
  · match i, hi with
    | 0, _ => cases hon
    | 1, _ => cases hon
    | 2, _ => cases hon
    | 3, _ => cases hon
    | 4, _ => cases hon
    | 5, _ => cases hon
    | 6, _ => cases hon
    | 7, _ => cases hon
    | 8, _ => cases hon
    | 9, _ => cases hon
    | 10, _ => cases hon
    | 11, _ => cases hon
    | i + 12, h => exact absurd (show i + 12 < 12 from h) (by omega)
  · exact (Below.refl _ _).drew
  · intro i oo ho hi hon don a w hT hU hdi hM K hK
    rw [hds] at hT
    have hT0 : ∀ t v, t ∉ ([16, 17, 18, 19, 20, 21, 22, 15, 23, 24, 6, 7] : List Nat) → T0[t]? = some v → a.tmps[t]?.getD undef = v := fun t v ht hv => by rw [hT t ht, hv]; rfl
    match i, hi with
    | 0, _ => exact u_load27 3 (opAtW ho (by kernel_rfl)) (hT0 3 _ (by decide) h3) (⟨HE w hM, rfl⟩) (hK w hM)
    | 1, _ => exact v_move 0 (opAtW ho (by kernel_rfl)) (hT0 0 _ (by decide) h0) (hK w hM)
    | 2, _ => exact u_nil 17 (opAtW ho (by kernel_rfl)) ((hU 1 (by kernel_rfl)).2 17 rfl) (hK w hM)
    | 3, _ => exact u_f66_0 18 (opAtW ho (by kernel_rfl)) ((hU 2 (by kernel_rfl)).2 18 rfl) (hK w hM)
    | 4, _ => exact u_f56_2 19 (opAtW ho (by kernel_rfl)) ((hU 3 (by kernel_rfl)).2 19 rfl) (hK w hM)
    | 5, _ => exact u_loadi 20 (opAtW ho (by kernel_rfl)) ((hU 4 (by kernel_rfl)).2 20 rfl) (HS w hM) (hK w hM)
    | 6, _ =>
      have x16 : a.tmps[16]?.getD undef = .agg #[.int .u8 kd, .int .i64 th, .int .i64 tx, .int .i64 pl, .int .i64 v, .int .i64 x, .int .u8 y] := ((hU 0 (by kernel_rfl)).2 16 rfl)
      have x21 : a.tmps[21]?.getD undef = .int .i64 S := ((hU 5 (by kernel_rfl)).2 21 rfl)
      obtain ⟨dst, op, type, pos, after, guard⟩ := oo
      have ho' : op = .call { callee := .value (.func 43), args := #[.tmp 16, .tmp 21], argTypes := #[27, 3] } := opAtW ho (by kernel_rfl)
      subst ho'
      clear ho hT hU hT0
      have hfun := Tryd.func43
      go_simp
      refine (HA.out w hM).mono ?_
      rintro r w' ⟨rfl, hb⟩
      exact hK w' (hM.trans (hb.mono hM.size))
    | 7, _ => exact v_move 22 (opAtW ho (by kernel_rfl)) ((hU 6 (by kernel_rfl)).2 22 rfl) (hK w hM)
    | 8, _ => exact u_extract0 15 (opAtW ho (by kernel_rfl)) ((hU 7 (by kernel_rfl)).2 15 rfl) (hK w hM)
    | 9, _ => exact u_extract1 15 (opAtW ho (by kernel_rfl)) ((hU 7 (by kernel_rfl)).2 15 rfl) (hK w hM)
    | 10, _ => exact v_assign 23 (opAtW ho (by kernel_rfl)) ((hU 8 (by kernel_rfl)).2 23 rfl) (hK w hM)
    | 11, _ => exact v_assign 24 (opAtW ho (by kernel_rfl)) ((hU 9 (by kernel_rfl)).2 24 rfl) (hK w hM)
    | i + 12, h => exact absurd (show i + 12 < 12 from h) (by omega)
  · intro w hM
    exact hend w (hM)
noncomputable def rgCm3_ops : Array Oper := opsW Tryd.f30 3
def rgCm3_D : List (Option Nat) := [some 25, some 26, some 27, some 28, some 29, some 30, some 8]
set_option maxRecDepth 100000 in
set_option maxHeartbeats 4000000 in
theorem rgCm3 {id : Nat} {ops : Array Oper} (hops : ops = rgCm3_ops) (T0 : Array Value) (hsz : 31 ≤ T0.size) (W : World) (g b o : Nat) (wh : Int) (tv : Value) (kd th tx pl v x y : Int) (HE : ∀ w1, Below W.heap.size W w1 → w1.heap[b]? = some (.cells #[.int .u8 kd, .int .i64 th, .int .i64 tx, .int .i64 pl, .int .i64 v, .int .i64 x, .int .u8 y] 27 (0, 0))) (HW : ∀ w1, Below W.heap.size W w1 → w1.cell? ⟨g, o, none⟩ = some (.int .i64 wh)) (HA : Hid (∀ w1, Below W.heap.size W w1 → Calls Tryd.prog 44 #[.int .i64 wh, .agg #[.int .u8 kd, .int .i64 th, .int .i64 tx, .int .i64 pl, .int .i64 v, .int .i64 x, .int .u8 y]] w1 fun r w' => r = .returned tv ∧ Below w1.heap.size w1 w')) (h3 : T0[3]? = some (.pointer (some ⟨b, 0, none⟩))) (h5 : T0[5]? = some (.pointer (some ⟨g, o, none⟩))) {Q : Exit → Act → World → Prop}
    (hend : ∀ w : World, Below W.heap.size W w → Q .normal ⟨putAll T0 [25, 26, 27, 28, 29, 30, 8] [.pointer (some ⟨g, o, none⟩), .pointer (some ⟨g, o, none⟩), .pointer (some ⟨g, o, none⟩), .int .i64 wh, .agg #[.int .u8 kd, .int .i64 th, .int .i64 tx, .int .i64 pl, .int .i64 v, .int .i64 x, .int .u8 y], tv, tv], []⟩ w) : (Code.region id ops true).wp Tryd.prog Q ⟨T0, []⟩ W := by
  subst hops
  have hos : rgCm3_ops.size = 7 := by kernel_rfl
  have hga : (List.range 7).all (fun i => match rgCm3_ops[i]? with | some o => o.guard == ([none, none, none, none, none, none, none] : List (Option (Nat × Bool))).getD i none | none => false) = true := by kernel_rfl
  have hds : ((pairsS rgCm3_D ([.pointer (some ⟨g, o, none⟩), .pointer (some ⟨g, o, none⟩), .pointer (some ⟨g, o, none⟩), .int .i64 wh, .agg #[.int .u8 kd, .int .i64 th, .int .i64 tx, .int .i64 pl, .int .i64 v, .int .i64 x, .int .u8 y], tv, tv] : List Value)).map (·.1)) = [25, 26, 27, 28, 29, 30, 8] := rfl
  refine wp_region_valsG ([.pointer (some ⟨g, o, none⟩), .pointer (some ⟨g, o, none⟩), .pointer (some ⟨g, o, none⟩), .int .i64 wh, .agg #[.int .u8 kd, .int .i64 th, .int .i64 tx, .int .i64 pl, .int .i64 v, .int .i64 x, .int .u8 y], tv, tv] : List Value) [true, true, true, true, true, true, true] rgCm3_D (fun _ w => Below W.heap.size W w) W T0 (by rw [hds]; decide) (fun x hx => ?_) (by kernel_rfl) (by kernel_rfl) (fun i o j want ho hg => ?_) (fun i hi hon => ?_) (fun i hi hon don w hM => ?_) ?_ ?_ ?_
  · rw [hds] at hx
    have hall : (([25, 26, 27, 28, 29, 30, 8] : List Nat).all fun d => decide (d < 31)) = true := by decide
    have := List.all_eq_true.1 hall x hx
    simp only [decide_eq_true_eq] at this
    omega
  · have hi : i < 7 := by rw [← hos]; exact (Array.getElem?_eq_some_iff.1 ho).1
    have h1 := List.all_eq_true.1 hga i (by simpa using hi)
    rw [ho] at h1
    simp only [hg, beq_iff_eq] at h1
    match i, hi with
    | 0, _ => cases h1
    | 1, _ => cases h1
    | 2, _ => cases h1
    | 3, _ => cases h1
    | 4, _ => cases h1
    | 5, _ => cases h1
    | 6, _ => cases h1
    | i + 7, h => exact absurd (show i + 7 < 7 from h) (by omega)
  · match i, hi with
    | 0, _ => cases hon
    | 1, _ => cases hon
    | 2, _ => cases hon
    | 3, _ => cases hon
    | 4, _ => cases hon
    | 5, _ => cases hon
    | 6, _ => cases hon
    | i + 7, h => exact absurd (show i + 7 < 7 from h) (by omega)
  · match i, hi with
    | 0, _ => cases hon
    | 1, _ => cases hon
    | 2, _ => cases hon
    | 3, _ => cases hon
    | 4, _ => cases hon
    | 5, _ => cases hon
    | 6, _ => cases hon
    | i + 7, h => exact absurd (show i + 7 < 7 from h) (by omega)
  · exact (Below.refl _ _).drew
  · intro i oo ho hi hon don a w hT hU hdi hM K hK
    rw [hds] at hT
    have hT0 : ∀ t v, t ∉ ([25, 26, 27, 28, 29, 30, 8] : List Nat) → T0[t]? = some v → a.tmps[t]?.getD undef = v := fun t v ht hv => by rw [hT t ht, hv]; rfl
    match i, hi with
    | 0, _ => exact v_move 5 (opAtW ho (by kernel_rfl)) (hT0 5 _ (by decide) h5) (hK w hM)
    | 1, _ => exact u_nil 25 (opAtW ho (by kernel_rfl)) ((hU 0 (by kernel_rfl)).2 25 rfl) (hK w hM)
    | 2, _ => exact u_f63_0 26 (opAtW ho (by kernel_rfl)) ((hU 1 (by kernel_rfl)).2 26 rfl) (hK w hM)
    | 3, _ => exact u_loadi 27 (opAtW ho (by kernel_rfl)) ((hU 2 (by kernel_rfl)).2 27 rfl) (HW w hM) (hK w hM)
    | 4, _ => exact u_load27 3 (opAtW ho (by kernel_rfl)) (hT0 3 _ (by decide) h3) (⟨HE w hM, rfl⟩) (hK w hM)
    | 5, _ =>
      have x28 : a.tmps[28]?.getD undef = .int .i64 wh := ((hU 3 (by kernel_rfl)).2 28 rfl)
      have x29 : a.tmps[29]?.getD undef = .agg #[.int .u8 kd, .int .i64 th, .int .i64 tx, .int .i64 pl, .int .i64 v, .int .i64 x, .int .u8 y] := ((hU 4 (by kernel_rfl)).2 29 rfl)
      obtain ⟨dst, op, type, pos, after, guard⟩ := oo
      have ho' : op = .call { callee := .value (.func 44), args := #[.tmp 28, .tmp 29], argTypes := #[3, 27] } := opAtW ho (by kernel_rfl)
      subst ho'
      clear ho hT hU hT0
      have hfun := Tryd.func44
      go_simp
      refine (HA.out w hM).mono ?_
      rintro r w' ⟨rfl, hb⟩
      exact hK w' (hM.trans (hb.mono hM.size))
    | 6, _ => exact v_assign 30 (opAtW ho (by kernel_rfl)) ((hU 5 (by kernel_rfl)).2 30 rfl) (hK w hM)
    | i + 7, h => exact absurd (show i + 7 < 7 from h) (by omega)
  · intro w hM
    exact hend w (hM)
noncomputable def rgNxA_ops : Array Oper := opsW Tryd.f11 5
def rgNxA_D : List (Option Nat) := [some 15, some 16, some 17, some 18, some 19, some 20, some 21, some 22, some 23, some 24, some 25, some 26, some 27, some 28, some 29, some 30, some 31, some 32, some 33, some 34, some 35, some 36, some 37, some 38, some 14]
set_option maxRecDepth 100000 in
set_option maxHeartbeats 4000000 in
theorem rgNxA {id : Nat} {ops : Array Oper} (hops : ops = rgNxA_ops) (T0 : Array Value) (hsz : 39 ≤ T0.size) (W : World) (g b : Nat) (T V S : Int) (kd th tx pl v x y : Int) (HE : ∀ w1, Below W.heap.size W w1 → w1.heap[b]? = some (.cells #[.int .u8 kd, .int .i64 th, .int .i64 tx, .int .i64 pl, .int .i64 v, .int .i64 x, .int .u8 y] 27 (0, 0))) (HZ : ∀ w1, Below W.heap.size W w1 → w1.cell? ⟨g, 0, none⟩ = some (.int .i64 T) ∧ w1.cell? ⟨g, 1, none⟩ = some (.int .i64 V) ∧ w1.cell? ⟨g, 2, none⟩ = some (.int .i64 S)) (HA : Hid (∀ w1, Below W.heap.size W w1 → Calls Tryd.prog 29 #[.agg #[.int .u8 kd, .int .i64 th, .int .i64 tx, .int .i64 pl, .int .i64 v, .int .i64 x, .int .u8 y], .int .i64 T, .int .i64 V, .int .i64 S] w1 fun r w' => r = .returned (.bool false) ∧ Below w1.heap.size w1 w'))  (h0 : T0[0]? = some (.pointer (some ⟨g, 0, none⟩))) (h3 : T0[3]? = some (.pointer (some ⟨b, 0, none⟩))) {Q : Exit → Act → World → Prop}
    (hend : ∀ w : World, Below W.heap.size W w → Q .normal ⟨putAll T0 [15, 16, 17, 18, 19, 20, 21, 22, 23, 24, 25, 26, 27, 28, 29, 30, 31, 32, 33, 34, 35, 36, 37, 38, 14] [.agg #[.int .u8 kd, .int .i64 th, .int .i64 tx, .int .i64 pl, .int .i64 v, .int .i64 x, .int .u8 y], .pointer (some ⟨g, 0, none⟩), .pointer (some ⟨g, 0, none⟩), .pointer (some ⟨g, 0, none⟩), .pointer (some ⟨g, 0, none⟩), .int .i64 T, .pointer (some ⟨g, 0, none⟩), .pointer (some ⟨g, 0, none⟩), .pointer (some ⟨g, 0, none⟩), .pointer (some ⟨g, 1, none⟩), .int .i64 V, .pointer (some ⟨g, 0, none⟩), .pointer (some ⟨g, 0, none⟩), .pointer (some ⟨g, 0, none⟩), .pointer (some ⟨g, 2, none⟩), .int .i64 S, .bool false, .bool true, .bool true, undef, undef, undef, undef, .bool true, .bool true], []⟩ w) : (Code.region id ops true).wp Tryd.prog Q ⟨T0, []⟩ W := by
  subst hops
  have hos : rgNxA_ops.size = 25 := by kernel_rfl
  have hga : (List.range 25).all (fun i => match rgNxA_ops[i]? with | some o => o.guard == ([none, none, none, none, none, none, none, none, none, none, none, none, none, none, none, none, none, none, none, some (18, false), some (18, false), some (18, false), some (18, false), none, none] : List (Option (Nat × Bool))).getD i none | none => false) = true := by kernel_rfl
  have hds : ((pairsS rgNxA_D ([.agg #[.int .u8 kd, .int .i64 th, .int .i64 tx, .int .i64 pl, .int .i64 v, .int .i64 x, .int .u8 y], .pointer (some ⟨g, 0, none⟩), .pointer (some ⟨g, 0, none⟩), .pointer (some ⟨g, 0, none⟩), .pointer (some ⟨g, 0, none⟩), .int .i64 T, .pointer (some ⟨g, 0, none⟩), .pointer (some ⟨g, 0, none⟩), .pointer (some ⟨g, 0, none⟩), .pointer (some ⟨g, 1, none⟩), .int .i64 V, .pointer (some ⟨g, 0, none⟩), .pointer (some ⟨g, 0, none⟩), .pointer (some ⟨g, 0, none⟩), .pointer (some ⟨g, 2, none⟩), .int .i64 S, .bool false, .bool true, .bool true, undef, undef, undef, undef, .bool true, .bool true] : List Value)).map (·.1)) = [15, 16, 17, 18, 19, 20, 21, 22, 23, 24, 25, 26, 27, 28, 29, 30, 31, 32, 33, 34, 35, 36, 37, 38, 14] := rfl
  refine wp_region_valsG ([.agg #[.int .u8 kd, .int .i64 th, .int .i64 tx, .int .i64 pl, .int .i64 v, .int .i64 x, .int .u8 y], .pointer (some ⟨g, 0, none⟩), .pointer (some ⟨g, 0, none⟩), .pointer (some ⟨g, 0, none⟩), .pointer (some ⟨g, 0, none⟩), .int .i64 T, .pointer (some ⟨g, 0, none⟩), .pointer (some ⟨g, 0, none⟩), .pointer (some ⟨g, 0, none⟩), .pointer (some ⟨g, 1, none⟩), .int .i64 V, .pointer (some ⟨g, 0, none⟩), .pointer (some ⟨g, 0, none⟩), .pointer (some ⟨g, 0, none⟩), .pointer (some ⟨g, 2, none⟩), .int .i64 S, .bool false, .bool true, .bool true, undef, undef, undef, undef, .bool true, .bool true] : List Value) [true, true, true, true, true, true, true, true, true, true, true, true, true, true, true, true, true, true, true, false, false, false, false, true, true] rgNxA_D (fun _ w => Below W.heap.size W w) W T0 (by rw [hds]; decide) (fun x hx => ?_) (by kernel_rfl) (by kernel_rfl) (fun i o j want ho hg => ?_) (fun i hi hon => ?_) (fun i hi hon don w hM => ?_) ?_ ?_ ?_
  · rw [hds] at hx
    have hall : (([15, 16, 17, 18, 19, 20, 21, 22, 23, 24, 25, 26, 27, 28, 29, 30, 31, 32, 33, 34, 35, 36, 37, 38, 14] : List Nat).all fun d => decide (d < 39)) = true := by decide
    have := List.all_eq_true.1 hall x hx
    simp only [decide_eq_true_eq] at this
    omega
  · have hi : i < 25 := by rw [← hos]; exact (Array.getElem?_eq_some_iff.1 ho).1
    have h1 := List.all_eq_true.1 hga i (by simpa using hi)
    rw [ho] at h1
    simp only [hg, beq_iff_eq] at h1
    match i, hi with
    | 0, _ => cases h1
    | 1, _ => cases h1
    | 2, _ => cases h1
    | 3, _ => cases h1
    | 4, _ => cases h1
    | 5, _ => cases h1
    | 6, _ => cases h1
    | 7, _ => cases h1
    | 8, _ => cases h1
    | 9, _ => cases h1
    | 10, _ => cases h1
    | 11, _ => cases h1
    | 12, _ => cases h1
    | 13, _ => cases h1
    | 14, _ => cases h1
    | 15, _ => cases h1
    | 16, _ => cases h1
    | 17, _ => cases h1
    | 18, _ => cases h1
    | 19, _ => obtain ⟨rfl, rfl⟩ := Prod.mk.inj (Option.some.inj h1); rfl
    | 20, _ => obtain ⟨rfl, rfl⟩ := Prod.mk.inj (Option.some.inj h1); rfl
    | 21, _ => obtain ⟨rfl, rfl⟩ := Prod.mk.inj (Option.some.inj h1); rfl
    | 22, _ => obtain ⟨rfl, rfl⟩ := Prod.mk.inj (Option.some.inj h1); rfl
    | 23, _ => cases h1
    | 24, _ => cases h1
    | i + 25, h => exact absurd (show i + 25 < 25 from h) (by omega)
  · match i, hi with
    | 0, _ => cases hon
    | 1, _ => cases hon
    | 2, _ => cases hon
    | 3, _ => cases hon
    | 4, _ => cases hon
    | 5, _ => cases hon
    | 6, _ => cases hon
    | 7, _ => cases hon
    | 8, _ => cases hon
    | 9, _ => cases hon
    | 10, _ => cases hon
    | 11, _ => cases hon
    | 12, _ => cases hon
    | 13, _ => cases hon
    | 14, _ => cases hon
    | 15, _ => cases hon
    | 16, _ => cases hon
    | 17, _ => cases hon
    | 18, _ => cases hon
    | 19, _ => rfl
    | 20, _ => rfl
    | 21, _ => rfl
    | 22, _ => rfl
    | 23, _ => cases hon
    | 24, _ => cases hon
    | i + 25, h => exact absurd (show i + 25 < 25 from h) (by omega)
  · match i, hi with
    | 0, _ => cases hon
    | 1, _ => cases hon
    | 2, _ => cases hon
    | 3, _ => cases hon
    | 4, _ => cases hon
    | 5, _ => cases hon
    | 6, _ => cases hon
    | 7, _ => cases hon
    | 8, _ => cases hon
    | 9, _ => cases hon
    | 10, _ => cases hon
    | 11, _ => cases hon
    | 12, _ => cases hon
    | 13, _ => cases hon
    | 14, _ => cases hon
    | 15, _ => cases hon
    | 16, _ => cases hon
    | 17, _ => cases hon
    | 18, _ => cases hon
    | 19, _ => exact hM
    | 20, _ => exact hM
    | 21, _ => exact hM
    | 22, _ => exact hM
    | 23, _ => cases hon
    | 24, _ => cases hon
    | i + 25, h => exact absurd (show i + 25 < 25 from h) (by omega)
  · exact (Below.refl _ _).drew
  · intro i oo ho hi hon don a w hT hU hdi hM K hK
    rw [hds] at hT
    have hT0 : ∀ t v, t ∉ ([15, 16, 17, 18, 19, 20, 21, 22, 23, 24, 25, 26, 27, 28, 29, 30, 31, 32, 33, 34, 35, 36, 37, 38, 14] : List Nat) → T0[t]? = some v → a.tmps[t]?.getD undef = v := fun t v ht hv => by rw [hT t ht, hv]; rfl
    match i, hi with
    | 0, _ => exact u_load27 3 (opAtW ho (by kernel_rfl)) (hT0 3 _ (by decide) h3) (⟨HE w hM, rfl⟩) (hK w hM)
    | 1, _ => exact v_move 0 (opAtW ho (by kernel_rfl)) (hT0 0 _ (by decide) h0) (hK w hM)
    | 2, _ => exact u_nil 16 (opAtW ho (by kernel_rfl)) ((hU 1 (by kernel_rfl)).2 16 rfl) (hK w hM)
    | 3, _ => exact u_f66_0 17 (opAtW ho (by kernel_rfl)) ((hU 2 (by kernel_rfl)).2 17 rfl) (hK w hM)
    | 4, _ => exact u_f56_0 18 (opAtW ho (by kernel_rfl)) ((hU 3 (by kernel_rfl)).2 18 rfl) (hK w hM)
    | 5, _ => exact u_loadi 19 (opAtW ho (by kernel_rfl)) ((hU 4 (by kernel_rfl)).2 19 rfl) ((HZ w hM).1) (hK w hM)
    | 6, _ => exact v_move 0 (opAtW ho (by kernel_rfl)) (hT0 0 _ (by decide) h0) (hK w hM)
    | 7, _ => exact u_nil 21 (opAtW ho (by kernel_rfl)) ((hU 6 (by kernel_rfl)).2 21 rfl) (hK w hM)
    | 8, _ => exact u_f66_0 22 (opAtW ho (by kernel_rfl)) ((hU 7 (by kernel_rfl)).2 22 rfl) (hK w hM)
    | 9, _ => exact u_f56_1 23 (opAtW ho (by kernel_rfl)) ((hU 8 (by kernel_rfl)).2 23 rfl) (hK w hM)
    | 10, _ => exact u_loadi 24 (opAtW ho (by kernel_rfl)) ((hU 9 (by kernel_rfl)).2 24 rfl) ((HZ w hM).2.1) (hK w hM)
    | 11, _ => exact v_move 0 (opAtW ho (by kernel_rfl)) (hT0 0 _ (by decide) h0) (hK w hM)
    | 12, _ => exact u_nil 26 (opAtW ho (by kernel_rfl)) ((hU 11 (by kernel_rfl)).2 26 rfl) (hK w hM)
    | 13, _ => exact u_f66_0 27 (opAtW ho (by kernel_rfl)) ((hU 12 (by kernel_rfl)).2 27 rfl) (hK w hM)
    | 14, _ => exact u_f56_2 28 (opAtW ho (by kernel_rfl)) ((hU 13 (by kernel_rfl)).2 28 rfl) (hK w hM)
    | 15, _ => exact u_loadi 29 (opAtW ho (by kernel_rfl)) ((hU 14 (by kernel_rfl)).2 29 rfl) ((HZ w hM).2.2) (hK w hM)
    | 16, _ =>
      have x15 : a.tmps[15]?.getD undef = .agg #[.int .u8 kd, .int .i64 th, .int .i64 tx, .int .i64 pl, .int .i64 v, .int .i64 x, .int .u8 y] := ((hU 0 (by kernel_rfl)).2 15 rfl)
      have x20 : a.tmps[20]?.getD undef = .int .i64 T := ((hU 5 (by kernel_rfl)).2 20 rfl)
      have x25 : a.tmps[25]?.getD undef = .int .i64 V := ((hU 10 (by kernel_rfl)).2 25 rfl)
      have x30 : a.tmps[30]?.getD undef = .int .i64 S := ((hU 15 (by kernel_rfl)).2 30 rfl)
      obtain ⟨dst, op, type, pos, after, guard⟩ := oo
      have ho' : op = .call { callee := .value (.func 29), args := #[.tmp 15, .tmp 20, .tmp 25, .tmp 30], argTypes := #[27, 3, 3, 3] } := opAtW ho (by kernel_rfl)
      subst ho'
      clear ho hT hU hT0
      have hfun := Tryd.func29
      go_simp
      refine (HA.out w hM).mono ?_
      rintro r w' ⟨rfl, hb⟩
      exact hK w' (hM.trans (hb.mono hM.size))
    | 17, _ => exact u_notF 31 (opAtW ho (by kernel_rfl)) ((hU 16 (by kernel_rfl)).2 31 rfl) (hK w hM)
    | 18, _ => exact v_move 32 (opAtW ho (by kernel_rfl)) ((hU 17 (by kernel_rfl)).2 32 rfl) (hK w hM)
    | 19, _ => exact absurd hon (by decide)
    | 20, _ => exact absurd hon (by decide)
    | 21, _ => exact absurd hon (by decide)
    | 22, _ => exact absurd hon (by decide)
    | 23, _ => exact v_orT 33 37 (opAtW ho (by kernel_rfl)) ((hU 18 (by kernel_rfl)).2 33 rfl) (hK w hM)
    | 24, _ => exact v_assign 38 (opAtW ho (by kernel_rfl)) ((hU 23 (by kernel_rfl)).2 38 rfl) (hK w hM)
    | i + 25, h => exact absurd (show i + 25 < 25 from h) (by omega)
  · intro w hM
    exact hend w (hM)
noncomputable def rgNxB_ops : Array Oper := opsW Tryd.f11 5
def rgNxB_D : List (Option Nat) := [some 15, some 16, some 17, some 18, some 19, some 20, some 21, some 22, some 23, some 24, some 25, some 26, some 27, some 28, some 29, some 30, some 31, some 32, some 33, some 34, some 35, some 36, some 37, some 38, some 14]
set_option maxRecDepth 100000 in
set_option maxHeartbeats 4000000 in
theorem rgNxB {id : Nat} {ops : Array Oper} (hops : ops = rgNxB_ops) (T0 : Array Value) (hsz : 39 ≤ T0.size) (W : World) (R : World → Prop) (HRB : ∀ w1 w', R w1 → Below w1.heap.size w1 w' → R w') (g b : Nat) (T V S : Int) (kd th tx pl v x y : Int) (HE : ∀ w1, R w1 ∨ Below W.heap.size W w1 → w1.heap[b]? = some (.cells #[.int .u8 kd, .int .i64 th, .int .i64 tx, .int .i64 pl, .int .i64 v, .int .i64 x, .int .u8 y] 27 (0, 0))) (HZ : ∀ w1, R w1 ∨ Below W.heap.size W w1 → w1.cell? ⟨g, 0, none⟩ = some (.int .i64 T) ∧ w1.cell? ⟨g, 1, none⟩ = some (.int .i64 V) ∧ w1.cell? ⟨g, 2, none⟩ = some (.int .i64 S)) (HA : Hid (∀ w1, R w1 ∨ Below W.heap.size W w1 → Calls Tryd.prog 29 #[.agg #[.int .u8 kd, .int .i64 th, .int .i64 tx, .int .i64 pl, .int .i64 v, .int .i64 x, .int .u8 y], .int .i64 T, .int .i64 V, .int .i64 S] w1 fun r w' => r = .returned (.bool true) ∧ Below w1.heap.size w1 w')) (HG : Hid (∀ w1, Below W.heap.size W w1 → Calls Tryd.prog 30 #[.pointer (some ⟨g, 0, none⟩), .agg #[.int .u8 kd, .int .i64 th, .int .i64 tx, .int .i64 pl, .int .i64 v, .int .i64 x, .int .u8 y]] w1 fun r w' => r = .returned (.bool false) ∧ R w')) (h0 : T0[0]? = some (.pointer (some ⟨g, 0, none⟩))) (h3 : T0[3]? = some (.pointer (some ⟨b, 0, none⟩))) {Q : Exit → Act → World → Prop}
    (hend : ∀ w : World, R w → Q .normal ⟨putAll T0 [15, 16, 17, 18, 19, 20, 21, 22, 23, 24, 25, 26, 27, 28, 29, 30, 31, 32, 33, 34, 35, 36, 37, 38, 14] [.agg #[.int .u8 kd, .int .i64 th, .int .i64 tx, .int .i64 pl, .int .i64 v, .int .i64 x, .int .u8 y], .pointer (some ⟨g, 0, none⟩), .pointer (some ⟨g, 0, none⟩), .pointer (some ⟨g, 0, none⟩), .pointer (some ⟨g, 0, none⟩), .int .i64 T, .pointer (some ⟨g, 0, none⟩), .pointer (some ⟨g, 0, none⟩), .pointer (some ⟨g, 0, none⟩), .pointer (some ⟨g, 1, none⟩), .int .i64 V, .pointer (some ⟨g, 0, none⟩), .pointer (some ⟨g, 0, none⟩), .pointer (some ⟨g, 0, none⟩), .pointer (some ⟨g, 2, none⟩), .int .i64 S, .bool true, .bool false, .bool false, .pointer (some ⟨g, 0, none⟩), .agg #[.int .u8 kd, .int .i64 th, .int .i64 tx, .int .i64 pl, .int .i64 v, .int .i64 x, .int .u8 y], .bool false, .bool true, .bool true, .bool true], []⟩ w) : (Code.region id ops true).wp Tryd.prog Q ⟨T0, []⟩ W := by
  subst hops
  have hos : rgNxB_ops.size = 25 := by kernel_rfl
  have hga : (List.range 25).all (fun i => match rgNxB_ops[i]? with | some o => o.guard == ([none, none, none, none, none, none, none, none, none, none, none, none, none, none, none, none, none, none, none, some (18, false), some (18, false), some (18, false), some (18, false), none, none] : List (Option (Nat × Bool))).getD i none | none => false) = true := by kernel_rfl
  have hds : ((pairsS rgNxB_D ([.agg #[.int .u8 kd, .int .i64 th, .int .i64 tx, .int .i64 pl, .int .i64 v, .int .i64 x, .int .u8 y], .pointer (some ⟨g, 0, none⟩), .pointer (some ⟨g, 0, none⟩), .pointer (some ⟨g, 0, none⟩), .pointer (some ⟨g, 0, none⟩), .int .i64 T, .pointer (some ⟨g, 0, none⟩), .pointer (some ⟨g, 0, none⟩), .pointer (some ⟨g, 0, none⟩), .pointer (some ⟨g, 1, none⟩), .int .i64 V, .pointer (some ⟨g, 0, none⟩), .pointer (some ⟨g, 0, none⟩), .pointer (some ⟨g, 0, none⟩), .pointer (some ⟨g, 2, none⟩), .int .i64 S, .bool true, .bool false, .bool false, .pointer (some ⟨g, 0, none⟩), .agg #[.int .u8 kd, .int .i64 th, .int .i64 tx, .int .i64 pl, .int .i64 v, .int .i64 x, .int .u8 y], .bool false, .bool true, .bool true, .bool true] : List Value)).map (·.1)) = [15, 16, 17, 18, 19, 20, 21, 22, 23, 24, 25, 26, 27, 28, 29, 30, 31, 32, 33, 34, 35, 36, 37, 38, 14] := rfl
  refine wp_region_valsG ([.agg #[.int .u8 kd, .int .i64 th, .int .i64 tx, .int .i64 pl, .int .i64 v, .int .i64 x, .int .u8 y], .pointer (some ⟨g, 0, none⟩), .pointer (some ⟨g, 0, none⟩), .pointer (some ⟨g, 0, none⟩), .pointer (some ⟨g, 0, none⟩), .int .i64 T, .pointer (some ⟨g, 0, none⟩), .pointer (some ⟨g, 0, none⟩), .pointer (some ⟨g, 0, none⟩), .pointer (some ⟨g, 1, none⟩), .int .i64 V, .pointer (some ⟨g, 0, none⟩), .pointer (some ⟨g, 0, none⟩), .pointer (some ⟨g, 0, none⟩), .pointer (some ⟨g, 2, none⟩), .int .i64 S, .bool true, .bool false, .bool false, .pointer (some ⟨g, 0, none⟩), .agg #[.int .u8 kd, .int .i64 th, .int .i64 tx, .int .i64 pl, .int .i64 v, .int .i64 x, .int .u8 y], .bool false, .bool true, .bool true, .bool true] : List Value) [true, true, true, true, true, true, true, true, true, true, true, true, true, true, true, true, true, true, true, true, true, true, true, true, true] rgNxB_D (fun don w => (don 21 = true → R w) ∧ (don 21 = false → Below W.heap.size W w)) W T0 (by rw [hds]; decide) (fun x hx => ?_) (by kernel_rfl) (by kernel_rfl) (fun i o j want ho hg => ?_) (fun i hi hon => ?_) (fun i hi hon don w hM => ?_) ?_ ?_ ?_
  · rw [hds] at hx
    have hall : (([15, 16, 17, 18, 19, 20, 21, 22, 23, 24, 25, 26, 27, 28, 29, 30, 31, 32, 33, 34, 35, 36, 37, 38, 14] : List Nat).all fun d => decide (d < 39)) = true := by decide
    have := List.all_eq_true.1 hall x hx
    simp only [decide_eq_true_eq] at this
    omega
  · have hi : i < 25 := by rw [← hos]; exact (Array.getElem?_eq_some_iff.1 ho).1
    have h1 := List.all_eq_true.1 hga i (by simpa using hi)
    rw [ho] at h1
    simp only [hg, beq_iff_eq] at h1
    match i, hi with
    | 0, _ => cases h1
    | 1, _ => cases h1
    | 2, _ => cases h1
    | 3, _ => cases h1
    | 4, _ => cases h1
    | 5, _ => cases h1
    | 6, _ => cases h1
    | 7, _ => cases h1
    | 8, _ => cases h1
    | 9, _ => cases h1
    | 10, _ => cases h1
    | 11, _ => cases h1
    | 12, _ => cases h1
    | 13, _ => cases h1
    | 14, _ => cases h1
    | 15, _ => cases h1
    | 16, _ => cases h1
    | 17, _ => cases h1
    | 18, _ => cases h1
    | 19, _ => obtain ⟨rfl, rfl⟩ := Prod.mk.inj (Option.some.inj h1); rfl
    | 20, _ => obtain ⟨rfl, rfl⟩ := Prod.mk.inj (Option.some.inj h1); rfl
    | 21, _ => obtain ⟨rfl, rfl⟩ := Prod.mk.inj (Option.some.inj h1); rfl
    | 22, _ => obtain ⟨rfl, rfl⟩ := Prod.mk.inj (Option.some.inj h1); rfl
    | 23, _ => cases h1
    | 24, _ => cases h1
    | i + 25, h => exact absurd (show i + 25 < 25 from h) (by omega)
  · match i, hi with
    | 0, _ => cases hon
    | 1, _ => cases hon
    | 2, _ => cases hon
    | 3, _ => cases hon
    | 4, _ => cases hon
    | 5, _ => cases hon
    | 6, _ => cases hon
    | 7, _ => cases hon
    | 8, _ => cases hon
    | 9, _ => cases hon
    | 10, _ => cases hon
    | 11, _ => cases hon
    | 12, _ => cases hon
    | 13, _ => cases hon
    | 14, _ => cases hon
    | 15, _ => cases hon
    | 16, _ => cases hon
    | 17, _ => cases hon
    | 18, _ => cases hon
    | 19, _ => cases hon
    | 20, _ => cases hon
    | 21, _ => cases hon
    | 22, _ => cases hon
    | 23, _ => cases hon
    | 24, _ => cases hon
    | i + 25, h => exact absurd (show i + 25 < 25 from h) (by omega)
  · match i, hi with
    | 0, _ => cases hon
    | 1, _ => cases hon
    | 2, _ => cases hon
    | 3, _ => cases hon
    | 4, _ => cases hon
    | 5, _ => cases hon
    | 6, _ => cases hon
    | 7, _ => cases hon
    | 8, _ => cases hon
    | 9, _ => cases hon
    | 10, _ => cases hon
    | 11, _ => cases hon
    | 12, _ => cases hon
    | 13, _ => cases hon
    | 14, _ => cases hon
    | 15, _ => cases hon
    | 16, _ => cases hon
    | 17, _ => cases hon
    | 18, _ => cases hon
    | 19, _ => cases hon
    | 20, _ => cases hon
    | 21, _ => cases hon
    | 22, _ => cases hon
    | 23, _ => cases hon
    | 24, _ => cases hon
    | i + 25, h => exact absurd (show i + 25 < 25 from h) (by omega)
  · exact ⟨fun h => (by cases h), fun _ => (Below.refl _ _).drew⟩
  · intro i oo ho hi hon don a w hT hU hdi hM K hK
    rw [hds] at hT
    have hT0 : ∀ t v, t ∉ ([15, 16, 17, 18, 19, 20, 21, 22, 23, 24, 25, 26, 27, 28, 29, 30, 31, 32, 33, 34, 35, 36, 37, 38, 14] : List Nat) → T0[t]? = some v → a.tmps[t]?.getD undef = v := fun t v ht hv => by rw [hT t ht, hv]; rfl
    match i, hi with
    | 0, _ => exact u_load27 3 (opAtW ho (by kernel_rfl)) (hT0 3 _ (by decide) h3) (⟨HE w (orM hM), rfl⟩) (hK w hM)
    | 1, _ => exact v_move 0 (opAtW ho (by kernel_rfl)) (hT0 0 _ (by decide) h0) (hK w hM)
    | 2, _ => exact u_nil 16 (opAtW ho (by kernel_rfl)) ((hU 1 (by kernel_rfl)).2 16 rfl) (hK w hM)
    | 3, _ => exact u_f66_0 17 (opAtW ho (by kernel_rfl)) ((hU 2 (by kernel_rfl)).2 17 rfl) (hK w hM)
    | 4, _ => exact u_f56_0 18 (opAtW ho (by kernel_rfl)) ((hU 3 (by kernel_rfl)).2 18 rfl) (hK w hM)
    | 5, _ => exact u_loadi 19 (opAtW ho (by kernel_rfl)) ((hU 4 (by kernel_rfl)).2 19 rfl) ((HZ w (orM hM)).1) (hK w hM)
    | 6, _ => exact v_move 0 (opAtW ho (by kernel_rfl)) (hT0 0 _ (by decide) h0) (hK w hM)
    | 7, _ => exact u_nil 21 (opAtW ho (by kernel_rfl)) ((hU 6 (by kernel_rfl)).2 21 rfl) (hK w hM)
    | 8, _ => exact u_f66_0 22 (opAtW ho (by kernel_rfl)) ((hU 7 (by kernel_rfl)).2 22 rfl) (hK w hM)
    | 9, _ => exact u_f56_1 23 (opAtW ho (by kernel_rfl)) ((hU 8 (by kernel_rfl)).2 23 rfl) (hK w hM)
    | 10, _ => exact u_loadi 24 (opAtW ho (by kernel_rfl)) ((hU 9 (by kernel_rfl)).2 24 rfl) ((HZ w (orM hM)).2.1) (hK w hM)
    | 11, _ => exact v_move 0 (opAtW ho (by kernel_rfl)) (hT0 0 _ (by decide) h0) (hK w hM)
    | 12, _ => exact u_nil 26 (opAtW ho (by kernel_rfl)) ((hU 11 (by kernel_rfl)).2 26 rfl) (hK w hM)
    | 13, _ => exact u_f66_0 27 (opAtW ho (by kernel_rfl)) ((hU 12 (by kernel_rfl)).2 27 rfl) (hK w hM)
    | 14, _ => exact u_f56_2 28 (opAtW ho (by kernel_rfl)) ((hU 13 (by kernel_rfl)).2 28 rfl) (hK w hM)
    | 15, _ => exact u_loadi 29 (opAtW ho (by kernel_rfl)) ((hU 14 (by kernel_rfl)).2 29 rfl) ((HZ w (orM hM)).2.2) (hK w hM)
    | 16, _ =>
      have x15 : a.tmps[15]?.getD undef = .agg #[.int .u8 kd, .int .i64 th, .int .i64 tx, .int .i64 pl, .int .i64 v, .int .i64 x, .int .u8 y] := ((hU 0 (by kernel_rfl)).2 15 rfl)
      have x20 : a.tmps[20]?.getD undef = .int .i64 T := ((hU 5 (by kernel_rfl)).2 20 rfl)
      have x25 : a.tmps[25]?.getD undef = .int .i64 V := ((hU 10 (by kernel_rfl)).2 25 rfl)
      have x30 : a.tmps[30]?.getD undef = .int .i64 S := ((hU 15 (by kernel_rfl)).2 30 rfl)
      obtain ⟨dst, op, type, pos, after, guard⟩ := oo
      have ho' : op = .call { callee := .value (.func 29), args := #[.tmp 15, .tmp 20, .tmp 25, .tmp 30], argTypes := #[27, 3, 3, 3] } := opAtW ho (by kernel_rfl)
      subst ho'
      clear ho hT hU hT0
      have hfun := Tryd.func29
      go_simp
      refine (HA.out w (orM hM)).mono ?_
      rintro r w' ⟨rfl, hb⟩
      exact hK w' ⟨fun h => HRB _ _ (hM.1 h) hb, fun h => (hM.2 h).trans (hb.mono (hM.2 h).size)⟩
    | 17, _ => exact u_notT 31 (opAtW ho (by kernel_rfl)) ((hU 16 (by kernel_rfl)).2 31 rfl) (hK w hM)
    | 18, _ => exact v_move 32 (opAtW ho (by kernel_rfl)) ((hU 17 (by kernel_rfl)).2 32 rfl) (hK w hM)
    | 19, _ => exact v_move 0 (opAtW ho (by kernel_rfl)) (hT0 0 _ (by decide) h0) (hK w hM)
    | 20, _ => exact u_load27 3 (opAtW ho (by kernel_rfl)) (hT0 3 _ (by decide) h3) (⟨HE w (orM hM), rfl⟩) (hK w hM)
    | 21, _ =>
      have x34 : a.tmps[34]?.getD undef = .pointer (some ⟨g, 0, none⟩) := ((hU 19 (by kernel_rfl)).2 34 rfl)
      have x35 : a.tmps[35]?.getD undef = .agg #[.int .u8 kd, .int .i64 th, .int .i64 tx, .int .i64 pl, .int .i64 v, .int .i64 x, .int .u8 y] := ((hU 20 (by kernel_rfl)).2 35 rfl)
      obtain ⟨dst, op, type, pos, after, guard⟩ := oo
      have ho' : op = .call { callee := .value (.func 30), args := #[.tmp 34, .tmp 35], argTypes := #[22, 27] } := opAtW ho (by kernel_rfl)
      subst ho'
      clear ho hT hU hT0
      have hfun := Tryd.func30
      go_simp
      refine (HG.out w (hM.2 hdi)).mono ?_
      rintro r w' ⟨rfl, hR⟩
      exact hK w' ⟨fun _ => hR, fun h => absurd h (by simp)⟩
    | 22, _ => exact u_notF 36 (opAtW ho (by kernel_rfl)) ((hU 21 (by kernel_rfl)).2 36 rfl) (hK w hM)
    | 23, _ => exact v_orF 33 37 (opAtW ho (by kernel_rfl)) ((hU 18 (by kernel_rfl)).2 33 rfl) ((hU 22 (by kernel_rfl)).2 37 rfl) (hK w hM)
    | 24, _ => exact v_assign 38 (opAtW ho (by kernel_rfl)) ((hU 23 (by kernel_rfl)).2 38 rfl) (hK w hM)
    | i + 25, h => exact absurd (show i + 25 < 25 from h) (by omega)
  · intro w hM
    exact hend w (hM.1 (by decide))
noncomputable def rgNxC_ops : Array Oper := opsW Tryd.f11 5
def rgNxC_D : List (Option Nat) := [some 15, some 16, some 17, some 18, some 19, some 20, some 21, some 22, some 23, some 24, some 25, some 26, some 27, some 28, some 29, some 30, some 31, some 32, some 33, some 34, some 35, some 36, some 37, some 38, some 14]
set_option maxRecDepth 100000 in
set_option maxHeartbeats 4000000 in
theorem rgNxC {id : Nat} {ops : Array Oper} (hops : ops = rgNxC_ops) (T0 : Array Value) (hsz : 39 ≤ T0.size) (W : World) (R : World → Prop) (HRB : ∀ w1 w', R w1 → Below w1.heap.size w1 w' → R w') (g b : Nat) (T V S : Int) (kd th tx pl v x y : Int) (HE : ∀ w1, R w1 ∨ Below W.heap.size W w1 → w1.heap[b]? = some (.cells #[.int .u8 kd, .int .i64 th, .int .i64 tx, .int .i64 pl, .int .i64 v, .int .i64 x, .int .u8 y] 27 (0, 0))) (HZ : ∀ w1, R w1 ∨ Below W.heap.size W w1 → w1.cell? ⟨g, 0, none⟩ = some (.int .i64 T) ∧ w1.cell? ⟨g, 1, none⟩ = some (.int .i64 V) ∧ w1.cell? ⟨g, 2, none⟩ = some (.int .i64 S)) (HA : Hid (∀ w1, R w1 ∨ Below W.heap.size W w1 → Calls Tryd.prog 29 #[.agg #[.int .u8 kd, .int .i64 th, .int .i64 tx, .int .i64 pl, .int .i64 v, .int .i64 x, .int .u8 y], .int .i64 T, .int .i64 V, .int .i64 S] w1 fun r w' => r = .returned (.bool true) ∧ Below w1.heap.size w1 w')) (HG : Hid (∀ w1, Below W.heap.size W w1 → Calls Tryd.prog 30 #[.pointer (some ⟨g, 0, none⟩), .agg #[.int .u8 kd, .int .i64 th, .int .i64 tx, .int .i64 pl, .int .i64 v, .int .i64 x, .int .u8 y]] w1 fun r w' => r = .returned (.bool true) ∧ R w')) (h0 : T0[0]? = some (.pointer (some ⟨g, 0, none⟩))) (h3 : T0[3]? = some (.pointer (some ⟨b, 0, none⟩))) {Q : Exit → Act → World → Prop}
    (hend : ∀ w : World, R w → Q .normal ⟨putAll T0 [15, 16, 17, 18, 19, 20, 21, 22, 23, 24, 25, 26, 27, 28, 29, 30, 31, 32, 33, 34, 35, 36, 37, 38, 14] [.agg #[.int .u8 kd, .int .i64 th, .int .i64 tx, .int .i64 pl, .int .i64 v, .int .i64 x, .int .u8 y], .pointer (some ⟨g, 0, none⟩), .pointer (some ⟨g, 0, none⟩), .pointer (some ⟨g, 0, none⟩), .pointer (some ⟨g, 0, none⟩), .int .i64 T, .pointer (some ⟨g, 0, none⟩), .pointer (some ⟨g, 0, none⟩), .pointer (some ⟨g, 0, none⟩), .pointer (some ⟨g, 1, none⟩), .int .i64 V, .pointer (some ⟨g, 0, none⟩), .pointer (some ⟨g, 0, none⟩), .pointer (some ⟨g, 0, none⟩), .pointer (some ⟨g, 2, none⟩), .int .i64 S, .bool true, .bool false, .bool false, .pointer (some ⟨g, 0, none⟩), .agg #[.int .u8 kd, .int .i64 th, .int .i64 tx, .int .i64 pl, .int .i64 v, .int .i64 x, .int .u8 y], .bool true, .bool false, .bool false, .bool false], []⟩ w) : (Code.region id ops true).wp Tryd.prog Q ⟨T0, []⟩ W := by
  subst hops
  have hos : rgNxC_ops.size = 25 := by kernel_rfl
  have hga : (List.range 25).all (fun i => match rgNxC_ops[i]? with | some o => o.guard == ([none, none, none, none, none, none, none, none, none, none, none, none, none, none, none, none, none, none, none, some (18, false), some (18, false), some (18, false), some (18, false), none, none] : List (Option (Nat × Bool))).getD i none | none => false) = true := by kernel_rfl
  have hds : ((pairsS rgNxC_D ([.agg #[.int .u8 kd, .int .i64 th, .int .i64 tx, .int .i64 pl, .int .i64 v, .int .i64 x, .int .u8 y], .pointer (some ⟨g, 0, none⟩), .pointer (some ⟨g, 0, none⟩), .pointer (some ⟨g, 0, none⟩), .pointer (some ⟨g, 0, none⟩), .int .i64 T, .pointer (some ⟨g, 0, none⟩), .pointer (some ⟨g, 0, none⟩), .pointer (some ⟨g, 0, none⟩), .pointer (some ⟨g, 1, none⟩), .int .i64 V, .pointer (some ⟨g, 0, none⟩), .pointer (some ⟨g, 0, none⟩), .pointer (some ⟨g, 0, none⟩), .pointer (some ⟨g, 2, none⟩), .int .i64 S, .bool true, .bool false, .bool false, .pointer (some ⟨g, 0, none⟩), .agg #[.int .u8 kd, .int .i64 th, .int .i64 tx, .int .i64 pl, .int .i64 v, .int .i64 x, .int .u8 y], .bool true, .bool false, .bool false, .bool false] : List Value)).map (·.1)) = [15, 16, 17, 18, 19, 20, 21, 22, 23, 24, 25, 26, 27, 28, 29, 30, 31, 32, 33, 34, 35, 36, 37, 38, 14] := rfl
  refine wp_region_valsG ([.agg #[.int .u8 kd, .int .i64 th, .int .i64 tx, .int .i64 pl, .int .i64 v, .int .i64 x, .int .u8 y], .pointer (some ⟨g, 0, none⟩), .pointer (some ⟨g, 0, none⟩), .pointer (some ⟨g, 0, none⟩), .pointer (some ⟨g, 0, none⟩), .int .i64 T, .pointer (some ⟨g, 0, none⟩), .pointer (some ⟨g, 0, none⟩), .pointer (some ⟨g, 0, none⟩), .pointer (some ⟨g, 1, none⟩), .int .i64 V, .pointer (some ⟨g, 0, none⟩), .pointer (some ⟨g, 0, none⟩), .pointer (some ⟨g, 0, none⟩), .pointer (some ⟨g, 2, none⟩), .int .i64 S, .bool true, .bool false, .bool false, .pointer (some ⟨g, 0, none⟩), .agg #[.int .u8 kd, .int .i64 th, .int .i64 tx, .int .i64 pl, .int .i64 v, .int .i64 x, .int .u8 y], .bool true, .bool false, .bool false, .bool false] : List Value) [true, true, true, true, true, true, true, true, true, true, true, true, true, true, true, true, true, true, true, true, true, true, true, true, true] rgNxC_D (fun don w => (don 21 = true → R w) ∧ (don 21 = false → Below W.heap.size W w)) W T0 (by rw [hds]; decide) (fun x hx => ?_) (by kernel_rfl) (by kernel_rfl) (fun i o j want ho hg => ?_) (fun i hi hon => ?_) (fun i hi hon don w hM => ?_) ?_ ?_ ?_
  · rw [hds] at hx
    have hall : (([15, 16, 17, 18, 19, 20, 21, 22, 23, 24, 25, 26, 27, 28, 29, 30, 31, 32, 33, 34, 35, 36, 37, 38, 14] : List Nat).all fun d => decide (d < 39)) = true := by decide
    have := List.all_eq_true.1 hall x hx
    simp only [decide_eq_true_eq] at this
    omega
  · have hi : i < 25 := by rw [← hos]; exact (Array.getElem?_eq_some_iff.1 ho).1
    have h1 := List.all_eq_true.1 hga i (by simpa using hi)
    rw [ho] at h1
    simp only [hg, beq_iff_eq] at h1
    match i, hi with
    | 0, _ => cases h1
    | 1, _ => cases h1
    | 2, _ => cases h1
    | 3, _ => cases h1
    | 4, _ => cases h1
    | 5, _ => cases h1
    | 6, _ => cases h1
    | 7, _ => cases h1
    | 8, _ => cases h1
    | 9, _ => cases h1
    | 10, _ => cases h1
    | 11, _ => cases h1
    | 12, _ => cases h1
    | 13, _ => cases h1
    | 14, _ => cases h1
    | 15, _ => cases h1
    | 16, _ => cases h1
    | 17, _ => cases h1
    | 18, _ => cases h1
    | 19, _ => obtain ⟨rfl, rfl⟩ := Prod.mk.inj (Option.some.inj h1); rfl
    | 20, _ => obtain ⟨rfl, rfl⟩ := Prod.mk.inj (Option.some.inj h1); rfl
    | 21, _ => obtain ⟨rfl, rfl⟩ := Prod.mk.inj (Option.some.inj h1); rfl
    | 22, _ => obtain ⟨rfl, rfl⟩ := Prod.mk.inj (Option.some.inj h1); rfl
    | 23, _ => cases h1
    | 24, _ => cases h1
    | i + 25, h => exact absurd (show i + 25 < 25 from h) (by omega)
  · match i, hi with
    | 0, _ => cases hon
    | 1, _ => cases hon
    | 2, _ => cases hon
    | 3, _ => cases hon
    | 4, _ => cases hon
    | 5, _ => cases hon
    | 6, _ => cases hon
    | 7, _ => cases hon
    | 8, _ => cases hon
    | 9, _ => cases hon
    | 10, _ => cases hon
    | 11, _ => cases hon
    | 12, _ => cases hon
    | 13, _ => cases hon
    | 14, _ => cases hon
    | 15, _ => cases hon
    | 16, _ => cases hon
    | 17, _ => cases hon
    | 18, _ => cases hon
    | 19, _ => cases hon
    | 20, _ => cases hon
    | 21, _ => cases hon
    | 22, _ => cases hon
    | 23, _ => cases hon
    | 24, _ => cases hon
    | i + 25, h => exact absurd (show i + 25 < 25 from h) (by omega)
  · match i, hi with
    | 0, _ => cases hon
    | 1, _ => cases hon
    | 2, _ => cases hon
    | 3, _ => cases hon
    | 4, _ => cases hon
    | 5, _ => cases hon
    | 6, _ => cases hon
    | 7, _ => cases hon
    | 8, _ => cases hon
    | 9, _ => cases hon
    | 10, _ => cases hon
    | 11, _ => cases hon
    | 12, _ => cases hon
    | 13, _ => cases hon
    | 14, _ => cases hon
    | 15, _ => cases hon
    | 16, _ => cases hon
    | 17, _ => cases hon
    | 18, _ => cases hon
    | 19, _ => cases hon
    | 20, _ => cases hon
    | 21, _ => cases hon
    | 22, _ => cases hon
    | 23, _ => cases hon
    | 24, _ => cases hon
    | i + 25, h => exact absurd (show i + 25 < 25 from h) (by omega)
  · exact ⟨fun h => (by cases h), fun _ => (Below.refl _ _).drew⟩
  · intro i oo ho hi hon don a w hT hU hdi hM K hK
    rw [hds] at hT
    have hT0 : ∀ t v, t ∉ ([15, 16, 17, 18, 19, 20, 21, 22, 23, 24, 25, 26, 27, 28, 29, 30, 31, 32, 33, 34, 35, 36, 37, 38, 14] : List Nat) → T0[t]? = some v → a.tmps[t]?.getD undef = v := fun t v ht hv => by rw [hT t ht, hv]; rfl
    match i, hi with
    | 0, _ => exact u_load27 3 (opAtW ho (by kernel_rfl)) (hT0 3 _ (by decide) h3) (⟨HE w (orM hM), rfl⟩) (hK w hM)
    | 1, _ => exact v_move 0 (opAtW ho (by kernel_rfl)) (hT0 0 _ (by decide) h0) (hK w hM)
    | 2, _ => exact u_nil 16 (opAtW ho (by kernel_rfl)) ((hU 1 (by kernel_rfl)).2 16 rfl) (hK w hM)
    | 3, _ => exact u_f66_0 17 (opAtW ho (by kernel_rfl)) ((hU 2 (by kernel_rfl)).2 17 rfl) (hK w hM)
    | 4, _ => exact u_f56_0 18 (opAtW ho (by kernel_rfl)) ((hU 3 (by kernel_rfl)).2 18 rfl) (hK w hM)
    | 5, _ => exact u_loadi 19 (opAtW ho (by kernel_rfl)) ((hU 4 (by kernel_rfl)).2 19 rfl) ((HZ w (orM hM)).1) (hK w hM)
    | 6, _ => exact v_move 0 (opAtW ho (by kernel_rfl)) (hT0 0 _ (by decide) h0) (hK w hM)
    | 7, _ => exact u_nil 21 (opAtW ho (by kernel_rfl)) ((hU 6 (by kernel_rfl)).2 21 rfl) (hK w hM)
    | 8, _ => exact u_f66_0 22 (opAtW ho (by kernel_rfl)) ((hU 7 (by kernel_rfl)).2 22 rfl) (hK w hM)
    | 9, _ => exact u_f56_1 23 (opAtW ho (by kernel_rfl)) ((hU 8 (by kernel_rfl)).2 23 rfl) (hK w hM)
    | 10, _ => exact u_loadi 24 (opAtW ho (by kernel_rfl)) ((hU 9 (by kernel_rfl)).2 24 rfl) ((HZ w (orM hM)).2.1) (hK w hM)
    | 11, _ => exact v_move 0 (opAtW ho (by kernel_rfl)) (hT0 0 _ (by decide) h0) (hK w hM)
    | 12, _ => exact u_nil 26 (opAtW ho (by kernel_rfl)) ((hU 11 (by kernel_rfl)).2 26 rfl) (hK w hM)
    | 13, _ => exact u_f66_0 27 (opAtW ho (by kernel_rfl)) ((hU 12 (by kernel_rfl)).2 27 rfl) (hK w hM)
    | 14, _ => exact u_f56_2 28 (opAtW ho (by kernel_rfl)) ((hU 13 (by kernel_rfl)).2 28 rfl) (hK w hM)
    | 15, _ => exact u_loadi 29 (opAtW ho (by kernel_rfl)) ((hU 14 (by kernel_rfl)).2 29 rfl) ((HZ w (orM hM)).2.2) (hK w hM)
    | 16, _ =>
      have x15 : a.tmps[15]?.getD undef = .agg #[.int .u8 kd, .int .i64 th, .int .i64 tx, .int .i64 pl, .int .i64 v, .int .i64 x, .int .u8 y] := ((hU 0 (by kernel_rfl)).2 15 rfl)
      have x20 : a.tmps[20]?.getD undef = .int .i64 T := ((hU 5 (by kernel_rfl)).2 20 rfl)
      have x25 : a.tmps[25]?.getD undef = .int .i64 V := ((hU 10 (by kernel_rfl)).2 25 rfl)
      have x30 : a.tmps[30]?.getD undef = .int .i64 S := ((hU 15 (by kernel_rfl)).2 30 rfl)
      obtain ⟨dst, op, type, pos, after, guard⟩ := oo
      have ho' : op = .call { callee := .value (.func 29), args := #[.tmp 15, .tmp 20, .tmp 25, .tmp 30], argTypes := #[27, 3, 3, 3] } := opAtW ho (by kernel_rfl)
      subst ho'
      clear ho hT hU hT0
      have hfun := Tryd.func29
      go_simp
      refine (HA.out w (orM hM)).mono ?_
      rintro r w' ⟨rfl, hb⟩
      exact hK w' ⟨fun h => HRB _ _ (hM.1 h) hb, fun h => (hM.2 h).trans (hb.mono (hM.2 h).size)⟩
    | 17, _ => exact u_notT 31 (opAtW ho (by kernel_rfl)) ((hU 16 (by kernel_rfl)).2 31 rfl) (hK w hM)
    | 18, _ => exact v_move 32 (opAtW ho (by kernel_rfl)) ((hU 17 (by kernel_rfl)).2 32 rfl) (hK w hM)
    | 19, _ => exact v_move 0 (opAtW ho (by kernel_rfl)) (hT0 0 _ (by decide) h0) (hK w hM)
    | 20, _ => exact u_load27 3 (opAtW ho (by kernel_rfl)) (hT0 3 _ (by decide) h3) (⟨HE w (orM hM), rfl⟩) (hK w hM)
    | 21, _ =>
      have x34 : a.tmps[34]?.getD undef = .pointer (some ⟨g, 0, none⟩) := ((hU 19 (by kernel_rfl)).2 34 rfl)
      have x35 : a.tmps[35]?.getD undef = .agg #[.int .u8 kd, .int .i64 th, .int .i64 tx, .int .i64 pl, .int .i64 v, .int .i64 x, .int .u8 y] := ((hU 20 (by kernel_rfl)).2 35 rfl)
      obtain ⟨dst, op, type, pos, after, guard⟩ := oo
      have ho' : op = .call { callee := .value (.func 30), args := #[.tmp 34, .tmp 35], argTypes := #[22, 27] } := opAtW ho (by kernel_rfl)
      subst ho'
      clear ho hT hU hT0
      have hfun := Tryd.func30
      go_simp
      refine (HG.out w (hM.2 hdi)).mono ?_
      rintro r w' ⟨rfl, hR⟩
      exact hK w' ⟨fun _ => hR, fun h => absurd h (by simp)⟩
    | 22, _ => exact u_notT 36 (opAtW ho (by kernel_rfl)) ((hU 21 (by kernel_rfl)).2 36 rfl) (hK w hM)
    | 23, _ => exact v_orF 33 37 (opAtW ho (by kernel_rfl)) ((hU 18 (by kernel_rfl)).2 33 rfl) ((hU 22 (by kernel_rfl)).2 37 rfl) (hK w hM)
    | 24, _ => exact v_assign 38 (opAtW ho (by kernel_rfl)) ((hU 23 (by kernel_rfl)).2 38 rfl) (hK w hM)
    | i + 25, h => exact absurd (show i + 25 < 25 from h) (by omega)
  · intro w hM
    exact hend w (hM.1 (by decide))
end Go.Proofs.YtnkkakcnlcmikaaDoor
