/-
  EventJust's drawn regions. Conditions: as they stand.
-/
import Derived.Test.YtjholjlmlglgnaaDoorRw
import Derived.Test.YtjholjlmlglgnaaDoorWg
namespace Go.Proofs.YtjholjlmlglgnaaDoor
set_option maxRecDepth 100000
open Go.RowKit
set_option linter.unusedVariables false
noncomputable def regJ14t_ops : Array Oper := opsW Tryd.f7 14
def regJ14t_ds : List Nat := [70, 71, 72, 73, 74, 75, 76, 77, 78, 79, 80, 81, 82, 83, 84, 85, 86, 87, 88, 89, 90, 91, 92, 93, 94, 95, 96, 97, 98, 99, 100, 101]
set_option maxRecDepth 100000 in
set_option maxHeartbeats 4000000 in
theorem regJ14t {id : Nat} {ops : Array Oper} (hops : ops = regJ14t_ops) (T0 : Array Value) (hsz : 102 ≤ T0.size) (W : World) (g gf ga gb : Nat) (kd th tx pl v x why T V S q1 q2 q3 : Int) (hg : ∀ wx, Below W.heap.size W wx → wx.cell? ⟨g, 0, none⟩ = some (.int .u8 kd)) (hf : ∀ wx, Below W.heap.size W wx → wx.heap[gf]? = some (.cells #[.int .u8 kd, .int .i64 q1, .int .i64 tx, .int .i64 pl, .int .i64 v, .int .i64 x, .int .u8 why] 23 (0, 0))) (ha : ∀ wx, Below W.heap.size W wx → wx.heap[ga]? = some (.cells #[.int .u8 kd, .int .i64 th, .int .i64 q2, .int .i64 pl, .int .i64 v, .int .i64 x, .int .u8 why] 23 (0, 0))) (hb1 : ∀ wx, Below W.heap.size W wx → wx.heap[gb]? = some (.cells #[.int .u8 kd, .int .i64 th, .int .i64 tx, .int .i64 pl, .int .i64 v, .int .i64 q3, .int .u8 why] 23 (0, 0))) (H1 : ∀ wx, Below W.heap.size W wx → Calls Tryd.prog 14 #[.agg #[.int .u8 kd, .int .i64 q1, .int .i64 tx, .int .i64 pl, .int .i64 v, .int .i64 x, .int .u8 why], .int .i64 T, .int .i64 V, .int .i64 S] wx fun r w' => r = .returned (.bool false) ∧ Below wx.heap.size wx w') (H2 : ∀ wx, Below W.heap.size W wx → Calls Tryd.prog 14 #[.agg #[.int .u8 kd, .int .i64 th, .int .i64 q2, .int .i64 pl, .int .i64 v, .int .i64 x, .int .u8 why], .int .i64 T, .int .i64 V, .int .i64 S] wx fun r w' => r = .returned (.bool (kd == 1)) ∧ Below wx.heap.size wx w') (H3 : ∀ wx, Below W.heap.size W wx → Calls Tryd.prog 14 #[.agg #[.int .u8 kd, .int .i64 th, .int .i64 tx, .int .i64 pl, .int .i64 v, .int .i64 q3, .int .u8 why], .int .i64 T, .int .i64 V, .int .i64 S] wx fun r w' => r = .returned (.bool (kd == 3 || kd == 8)) ∧ Below wx.heap.size wx w') (hk3 : (kd == 3) = true) (h1 : T0[1]? = some (.int .i64 T)) (h2 : T0[2]? = some (.int .i64 V)) (h3 : T0[3]? = some (.int .i64 S)) (h5 : T0[5]? = some (.pointer (some ⟨g, 0, none⟩))) (h13 : T0[13]? = some (.pointer (some ⟨gf, 0, none⟩))) (h14 : T0[14]? = some (.pointer (some ⟨ga, 0, none⟩))) (h15 : T0[15]? = some (.pointer (some ⟨gb, 0, none⟩))) {Q : Exit → Act → World → Prop}
    (hend : ∀ (us : List Value) (w : World), us.length = 32 → Below W.heap.size W w → us.getD 31 undef = .bool false → Q .normal ⟨putAll T0 regJ14t_ds us, []⟩ w) : (Code.region id ops true).wp Tryd.prog Q ⟨T0, []⟩ W := by
  subst hops
  have hos : regJ14t_ops.size = 32 := by kernel_rfl
  have hga : (List.range 32).all (fun i => match regJ14t_ops[i]? with | some o => o.guard == ([none, none, none, none, none, none, some (5, false), some (5, false), some (5, false), some (5, false), some (5, false), some (5, false), some (5, false), some (5, false), some (5, false), none, none, some (16, false), some (16, false), some (16, false), some (16, false), some (16, false), some (16, false), some (16, false), some (16, false), some (16, false), some (25, false), some (25, false), some (25, false), some (16, false), some (16, false), none] : List (Option (Nat × Bool))).getD i none | none => false) = true := by kernel_rfl
  refine wp_region_vals3 ([.agg #[.int .u8 kd, .int .i64 q1, .int .i64 tx, .int .i64 pl, .int .i64 v, .int .i64 x, .int .u8 why], .int .i64 T, .int .i64 V, .int .i64 S, .bool false, .bool false, .agg #[.int .u8 kd, .int .i64 th, .int .i64 q2, .int .i64 pl, .int .i64 v, .int .i64 x, .int .u8 why], .int .i64 T, .int .i64 V, .int .i64 S, .bool (kd == 1), .pointer (some ⟨g, 0, none⟩), .int .u8 kd, .bool (kd == 1), .bool false, .bool false, .bool false, .agg #[.int .u8 kd, .int .i64 th, .int .i64 tx, .int .i64 pl, .int .i64 v, .int .i64 q3, .int .u8 why], .int .i64 T, .int .i64 V, .int .i64 S, .bool (kd == 3 || kd == 8), .pointer (some ⟨g, 0, none⟩), .int .u8 kd, .bool true, .bool true, undef, undef, undef, .bool true, .bool false, .bool false] : List Value) [true, true, true, true, true, true, true, true, true, true, true, true, true, true, true, true, true, true, true, true, true, true, true, true, true, true, false, false, false, true, true, true] regJ14t_ds W T0 (by decide) (fun x hx => ?_) (by kernel_rfl) (by kernel_rfl) (fun i o j want ho hg => ?_) ?_ ?_
  · have hall : (regJ14t_ds.all fun d => decide (d < 102)) = true := by decide
    have := List.all_eq_true.1 hall x hx
    simp only [decide_eq_true_eq] at this
    omega
  · have hi : i < 32 := by rw [← hos]; exact (Array.getElem?_eq_some_iff.1 ho).1
    have h1 := List.all_eq_true.1 hga i (by simpa using hi)
    rw [ho] at h1
    simp only [hg, beq_iff_eq] at h1
    match i, hi with
    | 0, _ => cases h1
    | 1, _ => cases h1
    | 2, _ => cases h1
    | 3, _ => cases h1
    | 4, _ => cases h1
    | 5, _ => cases h1
    | 6, _ => obtain ⟨rfl, rfl⟩ := Prod.mk.inj (Option.some.inj h1); rfl
    | 7, _ => obtain ⟨rfl, rfl⟩ := Prod.mk.inj (Option.some.inj h1); rfl
    | 8, _ => obtain ⟨rfl, rfl⟩ := Prod.mk.inj (Option.some.inj h1); rfl
    | 9, _ => obtain ⟨rfl, rfl⟩ := Prod.mk.inj (Option.some.inj h1); rfl
    | 10, _ => obtain ⟨rfl, rfl⟩ := Prod.mk.inj (Option.some.inj h1); rfl
    | 11, _ => obtain ⟨rfl, rfl⟩ := Prod.mk.inj (Option.some.inj h1); rfl
    | 12, _ => obtain ⟨rfl, rfl⟩ := Prod.mk.inj (Option.some.inj h1); rfl
    | 13, _ => obtain ⟨rfl, rfl⟩ := Prod.mk.inj (Option.some.inj h1); rfl
    | 14, _ => obtain ⟨rfl, rfl⟩ := Prod.mk.inj (Option.some.inj h1); rfl
    | 15, _ => cases h1
    | 16, _ => cases h1
    | 17, _ => obtain ⟨rfl, rfl⟩ := Prod.mk.inj (Option.some.inj h1); rfl
    | 18, _ => obtain ⟨rfl, rfl⟩ := Prod.mk.inj (Option.some.inj h1); rfl
    | 19, _ => obtain ⟨rfl, rfl⟩ := Prod.mk.inj (Option.some.inj h1); rfl
    | 20, _ => obtain ⟨rfl, rfl⟩ := Prod.mk.inj (Option.some.inj h1); rfl
    | 21, _ => obtain ⟨rfl, rfl⟩ := Prod.mk.inj (Option.some.inj h1); rfl
    | 22, _ => obtain ⟨rfl, rfl⟩ := Prod.mk.inj (Option.some.inj h1); rfl
    | 23, _ => obtain ⟨rfl, rfl⟩ := Prod.mk.inj (Option.some.inj h1); rfl
    | 24, _ => obtain ⟨rfl, rfl⟩ := Prod.mk.inj (Option.some.inj h1); rfl
    | 25, _ => obtain ⟨rfl, rfl⟩ := Prod.mk.inj (Option.some.inj h1); rfl
    | 26, _ => obtain ⟨rfl, rfl⟩ := Prod.mk.inj (Option.some.inj h1); rfl
    | 27, _ => obtain ⟨rfl, rfl⟩ := Prod.mk.inj (Option.some.inj h1); rfl
    | 28, _ => obtain ⟨rfl, rfl⟩ := Prod.mk.inj (Option.some.inj h1); rfl
    | 29, _ => obtain ⟨rfl, rfl⟩ := Prod.mk.inj (Option.some.inj h1); rfl
    | 30, _ => obtain ⟨rfl, rfl⟩ := Prod.mk.inj (Option.some.inj h1); rfl
    | 31, _ => cases h1
    | i + 32, h => exact absurd (show i + 32 < 32 from h) (by omega)
  · intro i o ho hi hon a w hT hU hb K hK
    have hT0 : ∀ t v, t ∉ regJ14t_ds → T0[t]? = some v → a.tmps[t]?.getD undef = v := fun t v ht hv => by rw [hT t ht, hv]; rfl
    match i, hi with
    | 0, _ => exact v_loadE 13 (opAtW ho (by kernel_rfl)) (hT0 13 _ (by decide) h13) (hf w hb) rfl (hK _ (Below.refl _ _))
    | 1, _ => exact v_move 1 (opAtW ho (by kernel_rfl)) (hT0 1 _ (by decide) h1) (hK _ (Below.refl _ _))
    | 2, _ => exact v_move 2 (opAtW ho (by kernel_rfl)) (hT0 2 _ (by decide) h2) (hK _ (Below.refl _ _))
    | 3, _ => exact v_move 3 (opAtW ho (by kernel_rfl)) (hT0 3 _ (by decide) h3) (hK _ (Below.refl _ _))
    | 4, _ => exact v_may 70 71 72 73 (opAtW ho (by kernel_rfl)) (hU 0 (by kernel_rfl) rfl) (hU 1 (by kernel_rfl) rfl) (hU 2 (by kernel_rfl) rfl) (hU 3 (by kernel_rfl) rfl) (H1 w hb) (fun w' hb' => hK w' hb')
    | 5, _ => exact v_move 74 (opAtW ho (by kernel_rfl)) (hU 4 (by kernel_rfl) rfl) (hK _ (Below.refl _ _))
    | 6, _ => exact v_loadE 14 (opAtW ho (by kernel_rfl)) (hT0 14 _ (by decide) h14) (ha w hb) rfl (hK _ (Below.refl _ _))
    | 7, _ => exact v_move 1 (opAtW ho (by kernel_rfl)) (hT0 1 _ (by decide) h1) (hK _ (Below.refl _ _))
    | 8, _ => exact v_move 2 (opAtW ho (by kernel_rfl)) (hT0 2 _ (by decide) h2) (hK _ (Below.refl _ _))
    | 9, _ => exact v_move 3 (opAtW ho (by kernel_rfl)) (hT0 3 _ (by decide) h3) (hK _ (Below.refl _ _))
    | 10, _ => exact v_may 76 77 78 79 (opAtW ho (by kernel_rfl)) (hU 6 (by kernel_rfl) rfl) (hU 7 (by kernel_rfl) rfl) (hU 8 (by kernel_rfl) rfl) (hU 9 (by kernel_rfl) rfl) (H2 w hb) (fun w' hb' => hK w' hb')
    | 11, _ => exact v_field0 5 (opAtW ho (by kernel_rfl)) (hT0 5 _ (by decide) h5) (hK _ (Below.refl _ _))
    | 12, _ => exact v_loadB 81 (opAtW ho (by kernel_rfl)) (hU 11 (by kernel_rfl) rfl) (hg w hb) (hK _ (Below.refl _ _))
    | 13, _ => exact v_eqlc 82 (opAtW ho (by kernel_rfl)) (hU 12 (by kernel_rfl) rfl) (rfl) (hK _ (Below.refl _ _))
    | 14, _ => exact v_neqb 80 83 (opAtW ho (by kernel_rfl)) (hU 10 (by kernel_rfl) rfl) (hU 13 (by kernel_rfl) rfl) (by simp) (hK _ (Below.refl _ _))
    | 15, _ => exact v_orF 75 84 (opAtW ho (by kernel_rfl)) (hU 5 (by kernel_rfl) rfl) (hU 14 (by kernel_rfl) rfl) (hK _ (Below.refl _ _))
    | 16, _ => exact v_move 85 (opAtW ho (by kernel_rfl)) (hU 15 (by kernel_rfl) rfl) (hK _ (Below.refl _ _))
    | 17, _ => exact v_loadE 15 (opAtW ho (by kernel_rfl)) (hT0 15 _ (by decide) h15) (hb1 w hb) rfl (hK _ (Below.refl _ _))
    | 18, _ => exact v_move 1 (opAtW ho (by kernel_rfl)) (hT0 1 _ (by decide) h1) (hK _ (Below.refl _ _))
    | 19, _ => exact v_move 2 (opAtW ho (by kernel_rfl)) (hT0 2 _ (by decide) h2) (hK _ (Below.refl _ _))
    | 20, _ => exact v_move 3 (opAtW ho (by kernel_rfl)) (hT0 3 _ (by decide) h3) (hK _ (Below.refl _ _))
    | 21, _ => exact v_may 87 88 89 90 (opAtW ho (by kernel_rfl)) (hU 17 (by kernel_rfl) rfl) (hU 18 (by kernel_rfl) rfl) (hU 19 (by kernel_rfl) rfl) (hU 20 (by kernel_rfl) rfl) (H3 w hb) (fun w' hb' => hK w' hb')
    | 22, _ => exact v_field0 5 (opAtW ho (by kernel_rfl)) (hT0 5 _ (by decide) h5) (hK _ (Below.refl _ _))
    | 23, _ => exact v_loadB 92 (opAtW ho (by kernel_rfl)) (hU 22 (by kernel_rfl) rfl) (hg w hb) (hK _ (Below.refl _ _))
    | 24, _ => exact v_eqlc 93 (opAtW ho (by kernel_rfl)) (hU 23 (by kernel_rfl) rfl) (hk3) (hK _ (Below.refl _ _))
    | 25, _ => exact v_move 94 (opAtW ho (by kernel_rfl)) (hU 24 (by kernel_rfl) rfl) (hK _ (Below.refl _ _))
    | 26, _ => exact absurd hon (by decide)
    | 27, _ => exact absurd hon (by decide)
    | 28, _ => exact absurd hon (by decide)
    | 29, _ => exact v_orT 95 98 (opAtW ho (by kernel_rfl)) (hU 25 (by kernel_rfl) rfl) (hK _ (Below.refl _ _))
    | 30, _ => exact v_neqb 91 99 (opAtW ho (by kernel_rfl)) (hU 21 (by kernel_rfl) rfl) (hU 29 (by kernel_rfl) rfl) (by rw [hk3]; simp) (hK _ (Below.refl _ _))
    | 31, _ => exact v_orF 86 100 (opAtW ho (by kernel_rfl)) (hU 16 (by kernel_rfl) rfl) (hU 30 (by kernel_rfl) rfl) (hK _ (Below.refl _ _))
    | i + 32, h => exact absurd (show i + 32 < 32 from h) (by omega)
  · intro us w hu hb hv
    exact hend us w hu hb (hv 31 (by decide) rfl)
noncomputable def regJ14f_ops : Array Oper := opsW Tryd.f7 14
def regJ14f_ds : List Nat := [70, 71, 72, 73, 74, 75, 76, 77, 78, 79, 80, 81, 82, 83, 84, 85, 86, 87, 88, 89, 90, 91, 92, 93, 94, 95, 96, 97, 98, 99, 100, 101]
set_option maxRecDepth 100000 in
set_option maxHeartbeats 4000000 in
theorem regJ14f {id : Nat} {ops : Array Oper} (hops : ops = regJ14f_ops) (T0 : Array Value) (hsz : 102 ≤ T0.size) (W : World) (g gf ga gb : Nat) (kd th tx pl v x why T V S q1 q2 q3 : Int) (hg : ∀ wx, Below W.heap.size W wx → wx.cell? ⟨g, 0, none⟩ = some (.int .u8 kd)) (hf : ∀ wx, Below W.heap.size W wx → wx.heap[gf]? = some (.cells #[.int .u8 kd, .int .i64 q1, .int .i64 tx, .int .i64 pl, .int .i64 v, .int .i64 x, .int .u8 why] 23 (0, 0))) (ha : ∀ wx, Below W.heap.size W wx → wx.heap[ga]? = some (.cells #[.int .u8 kd, .int .i64 th, .int .i64 q2, .int .i64 pl, .int .i64 v, .int .i64 x, .int .u8 why] 23 (0, 0))) (hb1 : ∀ wx, Below W.heap.size W wx → wx.heap[gb]? = some (.cells #[.int .u8 kd, .int .i64 th, .int .i64 tx, .int .i64 pl, .int .i64 v, .int .i64 q3, .int .u8 why] 23 (0, 0))) (H1 : ∀ wx, Below W.heap.size W wx → Calls Tryd.prog 14 #[.agg #[.int .u8 kd, .int .i64 q1, .int .i64 tx, .int .i64 pl, .int .i64 v, .int .i64 x, .int .u8 why], .int .i64 T, .int .i64 V, .int .i64 S] wx fun r w' => r = .returned (.bool false) ∧ Below wx.heap.size wx w') (H2 : ∀ wx, Below W.heap.size W wx → Calls Tryd.prog 14 #[.agg #[.int .u8 kd, .int .i64 th, .int .i64 q2, .int .i64 pl, .int .i64 v, .int .i64 x, .int .u8 why], .int .i64 T, .int .i64 V, .int .i64 S] wx fun r w' => r = .returned (.bool (kd == 1)) ∧ Below wx.heap.size wx w') (H3 : ∀ wx, Below W.heap.size W wx → Calls Tryd.prog 14 #[.agg #[.int .u8 kd, .int .i64 th, .int .i64 tx, .int .i64 pl, .int .i64 v, .int .i64 q3, .int .u8 why], .int .i64 T, .int .i64 V, .int .i64 S] wx fun r w' => r = .returned (.bool (kd == 3 || kd == 8)) ∧ Below wx.heap.size wx w') (hk3 : (kd == 3) = false) (h1 : T0[1]? = some (.int .i64 T)) (h2 : T0[2]? = some (.int .i64 V)) (h3 : T0[3]? = some (.int .i64 S)) (h5 : T0[5]? = some (.pointer (some ⟨g, 0, none⟩))) (h13 : T0[13]? = some (.pointer (some ⟨gf, 0, none⟩))) (h14 : T0[14]? = some (.pointer (some ⟨ga, 0, none⟩))) (h15 : T0[15]? = some (.pointer (some ⟨gb, 0, none⟩))) {Q : Exit → Act → World → Prop}
    (hend : ∀ (us : List Value) (w : World), us.length = 32 → Below W.heap.size W w → us.getD 31 undef = .bool false → Q .normal ⟨putAll T0 regJ14f_ds us, []⟩ w) : (Code.region id ops true).wp Tryd.prog Q ⟨T0, []⟩ W := by
  subst hops
  have hos : regJ14f_ops.size = 32 := by kernel_rfl
  have hga : (List.range 32).all (fun i => match regJ14f_ops[i]? with | some o => o.guard == ([none, none, none, none, none, none, some (5, false), some (5, false), some (5, false), some (5, false), some (5, false), some (5, false), some (5, false), some (5, false), some (5, false), none, none, some (16, false), some (16, false), some (16, false), some (16, false), some (16, false), some (16, false), some (16, false), some (16, false), some (16, false), some (25, false), some (25, false), some (25, false), some (16, false), some (16, false), none] : List (Option (Nat × Bool))).getD i none | none => false) = true := by kernel_rfl
  refine wp_region_vals3 ([.agg #[.int .u8 kd, .int .i64 q1, .int .i64 tx, .int .i64 pl, .int .i64 v, .int .i64 x, .int .u8 why], .int .i64 T, .int .i64 V, .int .i64 S, .bool false, .bool false, .agg #[.int .u8 kd, .int .i64 th, .int .i64 q2, .int .i64 pl, .int .i64 v, .int .i64 x, .int .u8 why], .int .i64 T, .int .i64 V, .int .i64 S, .bool (kd == 1), .pointer (some ⟨g, 0, none⟩), .int .u8 kd, .bool (kd == 1), .bool false, .bool false, .bool false, .agg #[.int .u8 kd, .int .i64 th, .int .i64 tx, .int .i64 pl, .int .i64 v, .int .i64 q3, .int .u8 why], .int .i64 T, .int .i64 V, .int .i64 S, .bool (kd == 3 || kd == 8), .pointer (some ⟨g, 0, none⟩), .int .u8 kd, .bool false, .bool false, .pointer (some ⟨g, 0, none⟩), .int .u8 kd, .bool (kd == 8), .bool (kd == 8), .bool false, .bool false] : List Value) [true, true, true, true, true, true, true, true, true, true, true, true, true, true, true, true, true, true, true, true, true, true, true, true, true, true, true, true, true, true, true, true] regJ14f_ds W T0 (by decide) (fun x hx => ?_) (by kernel_rfl) (by kernel_rfl) (fun i o j want ho hg => ?_) ?_ ?_
  · have hall : (regJ14f_ds.all fun d => decide (d < 102)) = true := by decide
    have := List.all_eq_true.1 hall x hx
    simp only [decide_eq_true_eq] at this
    omega
  · have hi : i < 32 := by rw [← hos]; exact (Array.getElem?_eq_some_iff.1 ho).1
    have h1 := List.all_eq_true.1 hga i (by simpa using hi)
    rw [ho] at h1
    simp only [hg, beq_iff_eq] at h1
    match i, hi with
    | 0, _ => cases h1
    | 1, _ => cases h1
    | 2, _ => cases h1
    | 3, _ => cases h1
    | 4, _ => cases h1
    | 5, _ => cases h1
    | 6, _ => obtain ⟨rfl, rfl⟩ := Prod.mk.inj (Option.some.inj h1); rfl
    | 7, _ => obtain ⟨rfl, rfl⟩ := Prod.mk.inj (Option.some.inj h1); rfl
    | 8, _ => obtain ⟨rfl, rfl⟩ := Prod.mk.inj (Option.some.inj h1); rfl
    | 9, _ => obtain ⟨rfl, rfl⟩ := Prod.mk.inj (Option.some.inj h1); rfl
    | 10, _ => obtain ⟨rfl, rfl⟩ := Prod.mk.inj (Option.some.inj h1); rfl
    | 11, _ => obtain ⟨rfl, rfl⟩ := Prod.mk.inj (Option.some.inj h1); rfl
    | 12, _ => obtain ⟨rfl, rfl⟩ := Prod.mk.inj (Option.some.inj h1); rfl
    | 13, _ => obtain ⟨rfl, rfl⟩ := Prod.mk.inj (Option.some.inj h1); rfl
    | 14, _ => obtain ⟨rfl, rfl⟩ := Prod.mk.inj (Option.some.inj h1); rfl
    | 15, _ => cases h1
    | 16, _ => cases h1
    | 17, _ => obtain ⟨rfl, rfl⟩ := Prod.mk.inj (Option.some.inj h1); rfl
    | 18, _ => obtain ⟨rfl, rfl⟩ := Prod.mk.inj (Option.some.inj h1); rfl
    | 19, _ => obtain ⟨rfl, rfl⟩ := Prod.mk.inj (Option.some.inj h1); rfl
    | 20, _ => obtain ⟨rfl, rfl⟩ := Prod.mk.inj (Option.some.inj h1); rfl
    | 21, _ => obtain ⟨rfl, rfl⟩ := Prod.mk.inj (Option.some.inj h1); rfl
    | 22, _ => obtain ⟨rfl, rfl⟩ := Prod.mk.inj (Option.some.inj h1); rfl
    | 23, _ => obtain ⟨rfl, rfl⟩ := Prod.mk.inj (Option.some.inj h1); rfl
    | 24, _ => obtain ⟨rfl, rfl⟩ := Prod.mk.inj (Option.some.inj h1); rfl
    | 25, _ => obtain ⟨rfl, rfl⟩ := Prod.mk.inj (Option.some.inj h1); rfl
    | 26, _ => obtain ⟨rfl, rfl⟩ := Prod.mk.inj (Option.some.inj h1); rfl
    | 27, _ => obtain ⟨rfl, rfl⟩ := Prod.mk.inj (Option.some.inj h1); rfl
    | 28, _ => obtain ⟨rfl, rfl⟩ := Prod.mk.inj (Option.some.inj h1); rfl
    | 29, _ => obtain ⟨rfl, rfl⟩ := Prod.mk.inj (Option.some.inj h1); rfl
    | 30, _ => obtain ⟨rfl, rfl⟩ := Prod.mk.inj (Option.some.inj h1); rfl
    | 31, _ => cases h1
    | i + 32, h => exact absurd (show i + 32 < 32 from h) (by omega)
  · intro i o ho hi hon a w hT hU hb K hK
    have hT0 : ∀ t v, t ∉ regJ14f_ds → T0[t]? = some v → a.tmps[t]?.getD undef = v := fun t v ht hv => by rw [hT t ht, hv]; rfl
    match i, hi with
    | 0, _ => exact v_loadE 13 (opAtW ho (by kernel_rfl)) (hT0 13 _ (by decide) h13) (hf w hb) rfl (hK _ (Below.refl _ _))
    | 1, _ => exact v_move 1 (opAtW ho (by kernel_rfl)) (hT0 1 _ (by decide) h1) (hK _ (Below.refl _ _))
    | 2, _ => exact v_move 2 (opAtW ho (by kernel_rfl)) (hT0 2 _ (by decide) h2) (hK _ (Below.refl _ _))
    | 3, _ => exact v_move 3 (opAtW ho (by kernel_rfl)) (hT0 3 _ (by decide) h3) (hK _ (Below.refl _ _))
    | 4, _ => exact v_may 70 71 72 73 (opAtW ho (by kernel_rfl)) (hU 0 (by kernel_rfl) rfl) (hU 1 (by kernel_rfl) rfl) (hU 2 (by kernel_rfl) rfl) (hU 3 (by kernel_rfl) rfl) (H1 w hb) (fun w' hb' => hK w' hb')
    | 5, _ => exact v_move 74 (opAtW ho (by kernel_rfl)) (hU 4 (by kernel_rfl) rfl) (hK _ (Below.refl _ _))
    | 6, _ => exact v_loadE 14 (opAtW ho (by kernel_rfl)) (hT0 14 _ (by decide) h14) (ha w hb) rfl (hK _ (Below.refl _ _))
    | 7, _ => exact v_move 1 (opAtW ho (by kernel_rfl)) (hT0 1 _ (by decide) h1) (hK _ (Below.refl _ _))
    | 8, _ => exact v_move 2 (opAtW ho (by kernel_rfl)) (hT0 2 _ (by decide) h2) (hK _ (Below.refl _ _))
    | 9, _ => exact v_move 3 (opAtW ho (by kernel_rfl)) (hT0 3 _ (by decide) h3) (hK _ (Below.refl _ _))
    | 10, _ => exact v_may 76 77 78 79 (opAtW ho (by kernel_rfl)) (hU 6 (by kernel_rfl) rfl) (hU 7 (by kernel_rfl) rfl) (hU 8 (by kernel_rfl) rfl) (hU 9 (by kernel_rfl) rfl) (H2 w hb) (fun w' hb' => hK w' hb')
    | 11, _ => exact v_field0 5 (opAtW ho (by kernel_rfl)) (hT0 5 _ (by decide) h5) (hK _ (Below.refl _ _))
    | 12, _ => exact v_loadB 81 (opAtW ho (by kernel_rfl)) (hU 11 (by kernel_rfl) rfl) (hg w hb) (hK _ (Below.refl _ _))
    | 13, _ => exact v_eqlc 82 (opAtW ho (by kernel_rfl)) (hU 12 (by kernel_rfl) rfl) (rfl) (hK _ (Below.refl _ _))
    | 14, _ => exact v_neqb 80 83 (opAtW ho (by kernel_rfl)) (hU 10 (by kernel_rfl) rfl) (hU 13 (by kernel_rfl) rfl) (by simp) (hK _ (Below.refl _ _))
    | 15, _ => exact v_orF 75 84 (opAtW ho (by kernel_rfl)) (hU 5 (by kernel_rfl) rfl) (hU 14 (by kernel_rfl) rfl) (hK _ (Below.refl _ _))
    | 16, _ => exact v_move 85 (opAtW ho (by kernel_rfl)) (hU 15 (by kernel_rfl) rfl) (hK _ (Below.refl _ _))
    | 17, _ => exact v_loadE 15 (opAtW ho (by kernel_rfl)) (hT0 15 _ (by decide) h15) (hb1 w hb) rfl (hK _ (Below.refl _ _))
    | 18, _ => exact v_move 1 (opAtW ho (by kernel_rfl)) (hT0 1 _ (by decide) h1) (hK _ (Below.refl _ _))
    | 19, _ => exact v_move 2 (opAtW ho (by kernel_rfl)) (hT0 2 _ (by decide) h2) (hK _ (Below.refl _ _))
    | 20, _ => exact v_move 3 (opAtW ho (by kernel_rfl)) (hT0 3 _ (by decide) h3) (hK _ (Below.refl _ _))
    | 21, _ => exact v_may 87 88 89 90 (opAtW ho (by kernel_rfl)) (hU 17 (by kernel_rfl) rfl) (hU 18 (by kernel_rfl) rfl) (hU 19 (by kernel_rfl) rfl) (hU 20 (by kernel_rfl) rfl) (H3 w hb) (fun w' hb' => hK w' hb')
    | 22, _ => exact v_field0 5 (opAtW ho (by kernel_rfl)) (hT0 5 _ (by decide) h5) (hK _ (Below.refl _ _))
    | 23, _ => exact v_loadB 92 (opAtW ho (by kernel_rfl)) (hU 22 (by kernel_rfl) rfl) (hg w hb) (hK _ (Below.refl _ _))
    | 24, _ => exact v_eqlc 93 (opAtW ho (by kernel_rfl)) (hU 23 (by kernel_rfl) rfl) (hk3) (hK _ (Below.refl _ _))
    | 25, _ => exact v_move 94 (opAtW ho (by kernel_rfl)) (hU 24 (by kernel_rfl) rfl) (hK _ (Below.refl _ _))
    | 26, _ => exact v_field0 5 (opAtW ho (by kernel_rfl)) (hT0 5 _ (by decide) h5) (hK _ (Below.refl _ _))
    | 27, _ => exact v_loadB 96 (opAtW ho (by kernel_rfl)) (hU 26 (by kernel_rfl) rfl) (hg w hb) (hK _ (Below.refl _ _))
    | 28, _ => exact v_eqlc 97 (opAtW ho (by kernel_rfl)) (hU 27 (by kernel_rfl) rfl) (rfl) (hK _ (Below.refl _ _))
    | 29, _ => exact v_orF 95 98 (opAtW ho (by kernel_rfl)) (hU 25 (by kernel_rfl) rfl) (hU 28 (by kernel_rfl) rfl) (hK _ (Below.refl _ _))
    | 30, _ => exact v_neqb 91 99 (opAtW ho (by kernel_rfl)) (hU 21 (by kernel_rfl) rfl) (hU 29 (by kernel_rfl) rfl) (by rw [hk3]; simp) (hK _ (Below.refl _ _))
    | 31, _ => exact v_orF 86 100 (opAtW ho (by kernel_rfl)) (hU 16 (by kernel_rfl) rfl) (hU 30 (by kernel_rfl) rfl) (hK _ (Below.refl _ _))
    | i + 32, h => exact absurd (show i + 32 < 32 from h) (by omega)
  · intro us w hu hb hv
    exact hend us w hu hb (hv 31 (by decide) rfl)
noncomputable def regJ16_ops : Array Oper := opsW Tryd.f7 16
def regJ16_ds : List Nat := [102, 103, 104, 105, 106, 107, 108, 109, 110, 10]
set_option maxRecDepth 100000 in
set_option maxHeartbeats 4000000 in
theorem regJ16 {id : Nat} {ops : Array Oper} (hops : ops = regJ16_ops) (T0 : Array Value) (hsz : 111 ≤ T0.size) (W : World) (g gc : Nat) (kd th tx pl v x why T V S q2 : Int) (hg : ∀ wx, Below W.heap.size W wx → wx.cell? ⟨g, 0, none⟩ = some (.int .u8 kd)) (hc : ∀ wx, Below W.heap.size W wx → wx.heap[gc]? = some (.cells #[.int .u8 kd, .int .i64 th, .int .i64 tx, .int .i64 pl, .int .i64 v, .int .i64 x, .int .u8 q2] 23 (0, 0))) (H4 : ∀ wx, Below W.heap.size W wx → Calls Tryd.prog 14 #[.agg #[.int .u8 kd, .int .i64 th, .int .i64 tx, .int .i64 pl, .int .i64 v, .int .i64 x, .int .u8 q2], .int .i64 T, .int .i64 V, .int .i64 S] wx fun r w' => r = .returned (.bool (kd == 10)) ∧ Below wx.heap.size wx w') (h1 : T0[1]? = some (.int .i64 T)) (h2 : T0[2]? = some (.int .i64 V)) (h3 : T0[3]? = some (.int .i64 S)) (h5 : T0[5]? = some (.pointer (some ⟨g, 0, none⟩))) (h16 : T0[16]? = some (.pointer (some ⟨gc, 0, none⟩))) {Q : Exit → Act → World → Prop}
    (hend : ∀ (us : List Value) (w : World), us.length = 10 → Below W.heap.size W w → us.getD 9 undef = .bool true → Q .normal ⟨putAll T0 regJ16_ds us, []⟩ w) : (Code.region id ops true).wp Tryd.prog Q ⟨T0, []⟩ W := by
  subst hops
  have hos : regJ16_ops.size = 10 := by kernel_rfl
  have hga : (List.range 10).all (fun i => match regJ16_ops[i]? with | some o => o.guard == ([none, none, none, none, none, none, none, none, none, none] : List (Option (Nat × Bool))).getD i none | none => false) = true := by kernel_rfl
  refine wp_region_vals3 ([.agg #[.int .u8 kd, .int .i64 th, .int .i64 tx, .int .i64 pl, .int .i64 v, .int .i64 x, .int .u8 q2], .int .i64 T, .int .i64 V, .int .i64 S, .bool (kd == 10), .pointer (some ⟨g, 0, none⟩), .int .u8 kd, .bool (kd == 10), .bool true, .bool true] : List Value) [true, true, true, true, true, true, true, true, true, true] regJ16_ds W T0 (by decide) (fun x hx => ?_) (by kernel_rfl) (by kernel_rfl) (fun i o j want ho hg => ?_) ?_ ?_
  · have hall : (regJ16_ds.all fun d => decide (d < 111)) = true := by decide
    have := List.all_eq_true.1 hall x hx
    simp only [decide_eq_true_eq] at this
    omega
  · have hi : i < 10 := by rw [← hos]; exact (Array.getElem?_eq_some_iff.1 ho).1
    have h1 := List.all_eq_true.1 hga i (by simpa using hi)
    rw [ho] at h1
    simp only [hg, beq_iff_eq] at h1
    match i, hi with
    | 0, _ => cases h1
    | 1, _ => cases h1
    | 2, _ => cases h1
    | 3, _ => cases h1
    | 4, _ => cases h1
    | 5, _ => cases h1
    | 6, _ => cases h1
    | 7, _ => cases h1
    | 8, _ => cases h1
    | 9, _ => cases h1
    | i + 10, h => exact absurd (show i + 10 < 10 from h) (by omega)
  · intro i o ho hi hon a w hT hU hb K hK
    have hT0 : ∀ t v, t ∉ regJ16_ds → T0[t]? = some v → a.tmps[t]?.getD undef = v := fun t v ht hv => by rw [hT t ht, hv]; rfl
    match i, hi with
    | 0, _ => exact v_loadE 16 (opAtW ho (by kernel_rfl)) (hT0 16 _ (by decide) h16) (hc w hb) rfl (hK _ (Below.refl _ _))
    | 1, _ => exact v_move 1 (opAtW ho (by kernel_rfl)) (hT0 1 _ (by decide) h1) (hK _ (Below.refl _ _))
    | 2, _ => exact v_move 2 (opAtW ho (by kernel_rfl)) (hT0 2 _ (by decide) h2) (hK _ (Below.refl _ _))
    | 3, _ => exact v_move 3 (opAtW ho (by kernel_rfl)) (hT0 3 _ (by decide) h3) (hK _ (Below.refl _ _))
    | 4, _ => exact v_may 102 103 104 105 (opAtW ho (by kernel_rfl)) (hU 0 (by kernel_rfl) rfl) (hU 1 (by kernel_rfl) rfl) (hU 2 (by kernel_rfl) rfl) (hU 3 (by kernel_rfl) rfl) (H4 w hb) (fun w' hb' => hK w' hb')
    | 5, _ => exact v_field0 5 (opAtW ho (by kernel_rfl)) (hT0 5 _ (by decide) h5) (hK _ (Below.refl _ _))
    | 6, _ => exact v_loadB 107 (opAtW ho (by kernel_rfl)) (hU 5 (by kernel_rfl) rfl) (hg w hb) (hK _ (Below.refl _ _))
    | 7, _ => exact v_eqlc 108 (opAtW ho (by kernel_rfl)) (hU 6 (by kernel_rfl) rfl) (rfl) (hK _ (Below.refl _ _))
    | 8, _ => exact v_eqlb 106 109 (opAtW ho (by kernel_rfl)) (hU 4 (by kernel_rfl) rfl) (hU 7 (by kernel_rfl) rfl) (by simp) (hK _ (Below.refl _ _))
    | 9, _ => exact v_assign 110 (opAtW ho (by kernel_rfl)) (hU 8 (by kernel_rfl) rfl) (hK _ (Below.refl _ _))
    | i + 10, h => exact absurd (show i + 10 < 10 from h) (by omega)
  · intro us w hu hb hv
    exact hend us w hu hb (hv 9 (by decide) rfl)
end Go.Proofs.YtjholjlmlglgnaaDoor
