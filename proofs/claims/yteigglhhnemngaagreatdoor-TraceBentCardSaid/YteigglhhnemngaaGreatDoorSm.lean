/-
  DRAWN REGIONS of package shape that hold calls: outdated, held, newer, busy. Laid by gen/gen_sm.py. Conditions: as they stand.
-/
import Derived.Test.YteigglhhnemngaaGreatDoorSl
namespace Go.Proofs.YteigglhhnemngaaGreatDoor
set_option maxRecDepth 100000
open Go.RowKit
set_option linter.unusedVariables false
set_option linter.unusedSimpArgs false
noncomputable def rgOutT_ops : Array Oper := opsW Tryz.f161 1
def rgOutT_D : List (Option Nat) := [some 9, some 10, some 11, some 12, some 13, some 14, some 15, some 16, some 17, some 18, some 19, some 20, some 21, some 22, some 23, some 24, some 25, some 26, some 27, some 28, some 29, some 30, some 8]
set_option maxRecDepth 100000 in
set_option maxHeartbeats 4000000 in
theorem rgOutT {id : Nat} {ops : Array Oper} (hops : ops = rgOutT_ops) (T0 : Array Value) (hsz : 31 ≤ T0.size) (W : World) (g s o : Nat) (hs : s < 32) (x0 x1 x2 who : Int) (HD : ∀ w1, Below W.heap.size W w1 → w1.cell? ⟨g, 5 + s * 2, none⟩ = some (.int .i64 x0) ∧ w1.cell? ⟨g, 5 + s * 2 + 1, none⟩ = some (.int .i64 x1) ∧ w1.cell? ⟨g, o + 2, none⟩ = some (.int .i64 x2)) (HA : Hid (∀ w1, Calls Tryz.prog 157 #[.agg #[.int .i64 x0, .int .i64 x1], .int .i64 who] w1 fun e w' => e = .returned (.bool true) ∧ Below w1.heap.size w1 w')) (h0 : T0[0]? = some (.pointer (some ⟨g, 0, none⟩))) (h1 : T0[1]? = some (.pointer (some ⟨g, o, none⟩))) (h2 : T0[2]? = some (.int .i64 (s : Int))) (h3 : T0[3]? = some (.int .i64 who)) {Q : Exit → Act → World → Prop}
    (hend : ∀ w : World, Below W.heap.size W w → Q .normal ⟨putAll T0 [9, 10, 11, 12, 13, 14, 15, 16, 17, 18, 19, 20, 21, 22, 23, 24, 25, 26, 27, 28, 29, 30, 8] [.pointer (some ⟨g, 0, none⟩), .int .i64 (s : Int), .pointer (some ⟨g, 0, none⟩), .pointer (some ⟨g, 5, none⟩), .pointer (some ⟨g, 5 + s * 2, none⟩), .agg #[.int .i64 x0, .int .i64 x1], .int .i64 who, .bool true, .bool true, undef, undef, undef, undef, undef, undef, undef, undef, undef, undef, undef, undef, .bool true, .bool true], []⟩ w) : (Code.region id ops true).wp Tryz.prog Q ⟨T0, []⟩ W := by
  subst hops
  have hos : rgOutT_ops.size = 23 := by kernel_rfl
  have hga : (List.range 23).all (fun i => match rgOutT_ops[i]? with | some o => o.guard == ([none, none, none, none, none, none, none, none, none, some (8, false), some (8, false), some (8, false), some (8, false), some (8, false), some (8, false), some (8, false), some (8, false), some (8, false), some (8, false), some (8, false), some (8, false), none, none] : List (Option (Nat × Bool))).getD i none | none => false) = true := by kernel_rfl
  have hds : ((pairsS rgOutT_D ([.pointer (some ⟨g, 0, none⟩), .int .i64 (s : Int), .pointer (some ⟨g, 0, none⟩), .pointer (some ⟨g, 5, none⟩), .pointer (some ⟨g, 5 + s * 2, none⟩), .agg #[.int .i64 x0, .int .i64 x1], .int .i64 who, .bool true, .bool true, undef, undef, undef, undef, undef, undef, undef, undef, undef, undef, undef, undef, .bool true, .bool true] : List Value)).map (·.1)) = [9, 10, 11, 12, 13, 14, 15, 16, 17, 18, 19, 20, 21, 22, 23, 24, 25, 26, 27, 28, 29, 30, 8] := rfl
  refine wp_region_valsG ([.pointer (some ⟨g, 0, none⟩), .int .i64 (s : Int), .pointer (some ⟨g, 0, none⟩), .pointer (some ⟨g, 5, none⟩), .pointer (some ⟨g, 5 + s * 2, none⟩), .agg #[.int .i64 x0, .int .i64 x1], .int .i64 who, .bool true, .bool true, undef, undef, undef, undef, undef, undef, undef, undef, undef, undef, undef, undef, .bool true, .bool true] : List Value) [true, true, true, true, true, true, true, true, true, false, false, false, false, false, false, false, false, false, false, false, false, true, true] rgOutT_D (fun _ w => Below W.heap.size W w) W T0 (by rw [hds]; decide) (fun x hx => ?_) (by kernel_rfl) (by kernel_rfl) (fun i o j want ho hg => ?_) (fun i hi hon => ?_) (fun i hi hon don w hM => ?_) ?_ ?_ ?_
  · rw [hds] at hx
    have hall : (([9, 10, 11, 12, 13, 14, 15, 16, 17, 18, 19, 20, 21, 22, 23, 24, 25, 26, 27, 28, 29, 30, 8] : List Nat).all fun d => decide (d < 31)) = true := by decide
    have := List.all_eq_true.1 hall x hx
    simp only [decide_eq_true_eq] at this
    omega
  · have hi : i < 23 := by rw [← hos]; exact (Array.getElem?_eq_some_iff.1 ho).1
    have h1 := List.all_eq_true.1 hga i (by simpa using hi)
    rw [ho] at h1
    simp only [hg, beq_iff_eq] at h1
    match i, hi with
    | 0, _ => cases h1
    | 1, _ => cases h1
    | 2, _ => cases h1
    | 3, _ => cases h1
    | 4, _ => cases h1
    | 5, _ => cases h1
    | 6, _ => cases h1
    | 7, _ => cases h1
    | 8, _ => cases h1
    | 9, _ => obtain ⟨rfl, rfl⟩ := Prod.mk.inj (Option.some.inj h1); rfl
    | 10, _ => obtain ⟨rfl, rfl⟩ := Prod.mk.inj (Option.some.inj h1); rfl
    | 11, _ => obtain ⟨rfl, rfl⟩ := Prod.mk.inj (Option.some.inj h1); rfl
    | 12, _ => obtain ⟨rfl, rfl⟩ := Prod.mk.inj (Option.some.inj h1); rfl
    | 13, _ => obtain ⟨rfl, rfl⟩ := Prod.mk.inj (Option.some.inj h1); rfl
    | 14, _ => obtain ⟨rfl, rfl⟩ := Prod.mk.inj (Option.some.inj h1); rfl
    | 15, _ => obtain ⟨rfl, rfl⟩ := Prod.mk.inj (Option.some.inj h1); rfl
    | 16, _ => obtain ⟨rfl, rfl⟩ := Prod.mk.inj (Option.some.inj h1); rfl
    | 17, _ => obtain ⟨rfl, rfl⟩ := Prod.mk.inj (Option.some.inj h1); rfl
    | 18, _ => obtain ⟨rfl, rfl⟩ := Prod.mk.inj (Option.some.inj h1); rfl
    | 19, _ => obtain ⟨rfl, rfl⟩ := Prod.mk.inj (Option.some.inj h1); rfl
    | 20, _ => obtain ⟨rfl, rfl⟩ := Prod.mk.inj (Option.some.inj h1); rfl
    | 21, _ => cases h1
    | 22, _ => cases h1
    | i + 23, h => exact absurd (show i + 23 < 23 from h) (by omega)
  · match i, hi with
    | 0, _ => cases hon
    | 1, _ => cases hon
    | 2, _ => cases hon
    | 3, _ => cases hon
    | 4, _ => cases hon
    | 5, _ => cases hon
    | 6, _ => cases hon
    | 7, _ => cases hon
    | 8, _ => cases hon
    | 9, _ => rfl
    | 10, _ => rfl
    | 11, _ => rfl
    | 12, _ => rfl
    | 13, _ => rfl
    | 14, _ => rfl
    | 15, _ => rfl
    | 16, _ => rfl
    | 17, _ => rfl
    | 18, _ => rfl
    | 19, _ => rfl
    | 20, _ => rfl
    | 21, _ => cases hon
    | 22, _ => cases hon
    | i + 23, h => exact absurd (show i + 23 < 23 from h) (by omega)
  · match i, hi with
    | 0, _ => cases hon
    | 1, _ => cases hon
    | 2, _ => cases hon
    | 3, _ => cases hon
    | 4, _ => cases hon
    | 5, _ => cases hon
    | 6, _ => cases hon
    | 7, _ => cases hon
    | 8, _ => cases hon
    | 9, _ => exact hM
    | 10, _ => exact hM
    | 11, _ => exact hM
    | 12, _ => exact hM
    | 13, _ => exact hM
    | 14, _ => exact hM
    | 15, _ => exact hM
    | 16, _ => exact hM
    | 17, _ => exact hM
    | 18, _ => exact hM
    | 19, _ => exact hM
    | 20, _ => exact hM
    | 21, _ => cases hon
    | 22, _ => cases hon
    | i + 23, h => exact absurd (show i + 23 < 23 from h) (by omega)
  · exact (Below.refl _ _).drew
  · intro i oo ho hi hon don a w hT hU hdi hM K hK
    rw [hds] at hT
    have hT0 : ∀ t v, t ∉ ([9, 10, 11, 12, 13, 14, 15, 16, 17, 18, 19, 20, 21, 22, 23, 24, 25, 26, 27, 28, 29, 30, 8] : List Nat) → T0[t]? = some v → a.tmps[t]?.getD undef = v := fun t v ht hv => by rw [hT t ht, hv]; rfl
    match i, hi with
    | 0, _ => exact v_moveS 0 (opAtW ho (by kernel_rfl)) (hT0 0 _ (by decide) h0) (hK w hM)
    | 1, _ => exact v_moveS 2 (opAtW ho (by kernel_rfl)) (hT0 2 _ (by decide) h2) (hK w hM)
    | 2, _ => exact u_nilS 9 (opAtW ho (by kernel_rfl)) ((hU 0 (by kernel_rfl)).2 9 rfl) (hK w hM)
    | 3, _ => exact u_f66_3 11 (opAtW ho (by kernel_rfl)) ((hU 2 (by kernel_rfl)).2 11 rfl) (hK w hM)
    | 4, _ => exact u_i59 12 10 (k := s) hs (opAtW ho (by kernel_rfl)) ((hU 3 (by kernel_rfl)).2 12 rfl) ((hU 1 (by kernel_rfl)).2 10 rfl) (hK w hM)
    | 5, _ => exact u_load58 13 (opAtW ho (by kernel_rfl)) ((hU 4 (by kernel_rfl)).2 13 rfl) (⟨(HD w hM).1, (HD w hM).2.1⟩) (hK w hM)
    | 6, _ => exact v_moveS 3 (opAtW ho (by kernel_rfl)) (hT0 3 _ (by decide) h3) (hK w hM)
    | 7, _ =>
      have x14 : a.tmps[14]?.getD undef = .agg #[.int .i64 x0, .int .i64 x1] := ((hU 5 (by kernel_rfl)).2 14 rfl)
      have x15 : a.tmps[15]?.getD undef = .int .i64 who := ((hU 6 (by kernel_rfl)).2 15 rfl)
      obtain ⟨dst, op, type, pos, after, guard⟩ := oo
      have ho' : op = .call { callee := .value (.func 157), args := #[.tmp 14, .tmp 15], argTypes := #[153, 3] } := opAtW ho (by kernel_rfl)
      subst ho'
      clear ho hT hU hT0
      have hfun := Tryz.func157
      go_simp
      refine (HA.out w).mono ?_
      rintro r w' ⟨rfl, hb⟩
      exact hK w' (hM.trans (hb.mono hM.size))
    | 8, _ => exact v_moveS 16 (opAtW ho (by kernel_rfl)) ((hU 7 (by kernel_rfl)).2 16 rfl) (hK w hM)
    | 9, _ => exact absurd hon (by decide)
    | 10, _ => exact absurd hon (by decide)
    | 11, _ => exact absurd hon (by decide)
    | 12, _ => exact absurd hon (by decide)
    | 13, _ => exact absurd hon (by decide)
    | 14, _ => exact absurd hon (by decide)
    | 15, _ => exact absurd hon (by decide)
    | 16, _ => exact absurd hon (by decide)
    | 17, _ => exact absurd hon (by decide)
    | 18, _ => exact absurd hon (by decide)
    | 19, _ => exact absurd hon (by decide)
    | 20, _ => exact absurd hon (by decide)
    | 21, _ => exact v_orT 17 29 (opAtW ho (by kernel_rfl)) ((hU 8 (by kernel_rfl)).2 17 rfl) (hK w hM)
    | 22, _ => exact v_assignS 30 (opAtW ho (by kernel_rfl)) ((hU 21 (by kernel_rfl)).2 30 rfl) (hK w hM)
    | i + 23, h => exact absurd (show i + 23 < 23 from h) (by omega)
  · intro w hM
    exact hend w (hM)
noncomputable def rgOutF_ops : Array Oper := opsW Tryz.f161 1
def rgOutF_D : List (Option Nat) := [some 9, some 10, some 11, some 12, some 13, some 14, some 15, some 16, some 17, some 18, some 19, some 20, some 21, some 22, some 23, some 24, some 25, some 26, some 27, some 28, some 29, some 30, some 8]
set_option maxRecDepth 100000 in
set_option maxHeartbeats 4000000 in
theorem rgOutF {id : Nat} {ops : Array Oper} (hops : ops = rgOutF_ops) (T0 : Array Value) (hsz : 31 ≤ T0.size) (W : World) (g s o : Nat) (hs : s < 32) (x0 x1 x2 who : Int) (r : Bool) (hr : decide (x2 < x1) = r) (HD : ∀ w1, Below W.heap.size W w1 → w1.cell? ⟨g, 5 + s * 2, none⟩ = some (.int .i64 x0) ∧ w1.cell? ⟨g, 5 + s * 2 + 1, none⟩ = some (.int .i64 x1) ∧ w1.cell? ⟨g, o + 2, none⟩ = some (.int .i64 x2)) (HA : Hid (∀ w1, Calls Tryz.prog 157 #[.agg #[.int .i64 x0, .int .i64 x1], .int .i64 who] w1 fun e w' => e = .returned (.bool false) ∧ Below w1.heap.size w1 w')) (h0 : T0[0]? = some (.pointer (some ⟨g, 0, none⟩))) (h1 : T0[1]? = some (.pointer (some ⟨g, o, none⟩))) (h2 : T0[2]? = some (.int .i64 (s : Int))) (h3 : T0[3]? = some (.int .i64 who)) {Q : Exit → Act → World → Prop}
    (hend : ∀ w : World, Below W.heap.size W w → Q .normal ⟨putAll T0 [9, 10, 11, 12, 13, 14, 15, 16, 17, 18, 19, 20, 21, 22, 23, 24, 25, 26, 27, 28, 29, 30, 8] [.pointer (some ⟨g, 0, none⟩), .int .i64 (s : Int), .pointer (some ⟨g, 0, none⟩), .pointer (some ⟨g, 5, none⟩), .pointer (some ⟨g, 5 + s * 2, none⟩), .agg #[.int .i64 x0, .int .i64 x1], .int .i64 who, .bool false, .bool false, .pointer (some ⟨g, 0, none⟩), .int .i64 (s : Int), .pointer (some ⟨g, 0, none⟩), .pointer (some ⟨g, 5, none⟩), .pointer (some ⟨g, 5 + s * 2, none⟩), .pointer (some ⟨g, 5 + s * 2 + 1, none⟩), .int .i64 x1, .pointer (some ⟨g, o, none⟩), .pointer (some ⟨g, o, none⟩), .pointer (some ⟨g, o + 2, none⟩), .int .i64 x2, .bool r, .bool r, .bool r], []⟩ w) : (Code.region id ops true).wp Tryz.prog Q ⟨T0, []⟩ W := by
  subst hops
  have hos : rgOutF_ops.size = 23 := by kernel_rfl
  have hga : (List.range 23).all (fun i => match rgOutF_ops[i]? with | some o => o.guard == ([none, none, none, none, none, none, none, none, none, some (8, false), some (8, false), some (8, false), some (8, false), some (8, false), some (8, false), some (8, false), some (8, false), some (8, false), some (8, false), some (8, false), some (8, false), none, none] : List (Option (Nat × Bool))).getD i none | none => false) = true := by kernel_rfl
  have hds : ((pairsS rgOutF_D ([.pointer (some ⟨g, 0, none⟩), .int .i64 (s : Int), .pointer (some ⟨g, 0, none⟩), .pointer (some ⟨g, 5, none⟩), .pointer (some ⟨g, 5 + s * 2, none⟩), .agg #[.int .i64 x0, .int .i64 x1], .int .i64 who, .bool false, .bool false, .pointer (some ⟨g, 0, none⟩), .int .i64 (s : Int), .pointer (some ⟨g, 0, none⟩), .pointer (some ⟨g, 5, none⟩), .pointer (some ⟨g, 5 + s * 2, none⟩), .pointer (some ⟨g, 5 + s * 2 + 1, none⟩), .int .i64 x1, .pointer (some ⟨g, o, none⟩), .pointer (some ⟨g, o, none⟩), .pointer (some ⟨g, o + 2, none⟩), .int .i64 x2, .bool r, .bool r, .bool r] : List Value)).map (·.1)) = [9, 10, 11, 12, 13, 14, 15, 16, 17, 18, 19, 20, 21, 22, 23, 24, 25, 26, 27, 28, 29, 30, 8] := rfl
  refine wp_region_valsG ([.pointer (some ⟨g, 0, none⟩), .int .i64 (s : Int), .pointer (some ⟨g, 0, none⟩), .pointer (some ⟨g, 5, none⟩), .pointer (some ⟨g, 5 + s * 2, none⟩), .agg #[.int .i64 x0, .int .i64 x1], .int .i64 who, .bool false, .bool false, .pointer (some ⟨g, 0, none⟩), .int .i64 (s : Int), .pointer (some ⟨g, 0, none⟩), .pointer (some ⟨g, 5, none⟩), .pointer (some ⟨g, 5 + s * 2, none⟩), .pointer (some ⟨g, 5 + s * 2 + 1, none⟩), .int .i64 x1, .pointer (some ⟨g, o, none⟩), .pointer (some ⟨g, o, none⟩), .pointer (some ⟨g, o + 2, none⟩), .int .i64 x2, .bool r, .bool r, .bool r] : List Value) [true, true, true, true, true, true, true, true, true, true, true, true, true, true, true, true, true, true, true, true, true, true, true] rgOutF_D (fun _ w => Below W.heap.size W w) W T0 (by rw [hds]; decide) (fun x hx => ?_) (by kernel_rfl) (by kernel_rfl) (fun i o j want ho hg => ?_) (fun i hi hon => ?_) (fun i hi hon don w hM => ?_) ?_ ?_ ?_
  · rw [hds] at hx
    have hall : (([9, 10, 11, 12, 13, 14, 15, 16, 17, 18, 19, 20, 21, 22, 23, 24, 25, 26, 27, 28, 29, 30, 8] : List Nat).all fun d => decide (d < 31)) = true := by decide
    have := List.all_eq_true.1 hall x hx
    simp only [decide_eq_true_eq] at this
    omega
  · have hi : i < 23 := by rw [← hos]; exact (Array.getElem?_eq_some_iff.1 ho).1
    have h1 := List.all_eq_true.1 hga i (by simpa using hi)
    rw [ho] at h1
    simp only [hg, beq_iff_eq] at h1
    match i, hi with
    | 0, _ => cases h1
    | 1, _ => cases h1
    | 2, _ => cases h1
    | 3, _ => cases h1
    | 4, _ => cases h1
    | 5, _ => cases h1
    | 6, _ => cases h1
    | 7, _ => cases h1
    | 8, _ => cases h1
    | 9, _ => obtain ⟨rfl, rfl⟩ := Prod.mk.inj (Option.some.inj h1); rfl
    | 10, _ => obtain ⟨rfl, rfl⟩ := Prod.mk.inj (Option.some.inj h1); rfl
    | 11, _ => obtain ⟨rfl, rfl⟩ := Prod.mk.inj (Option.some.inj h1); rfl
    | 12, _ => obtain ⟨rfl, rfl⟩ := Prod.mk.inj (Option.some.inj h1); rfl
    | 13, _ => obtain ⟨rfl, rfl⟩ := Prod.mk.inj (Option.some.inj h1); rfl
    | 14, _ => obtain ⟨rfl, rfl⟩ := Prod.mk.inj (Option.some.inj h1); rfl
    | 15, _ => obtain ⟨rfl, rfl⟩ := Prod.mk.inj (Option.some.inj h1); rfl
    | 16, _ => obtain ⟨rfl, rfl⟩ := Prod.mk.inj (Option.some.inj h1); rfl
    | 17, _ => obtain ⟨rfl, rfl⟩ := Prod.mk.inj (Option.some.inj h1); rfl
    | 18, _ => obtain ⟨rfl, rfl⟩ := Prod.mk.inj (Option.some.inj h1); rfl
    | 19, _ => obtain ⟨rfl, rfl⟩ := Prod.mk.inj (Option.some.inj h1); rfl
    | 20, _ => obtain ⟨rfl, rfl⟩ := Prod.mk.inj (Option.some.inj h1); rfl
    | 21, _ => cases h1
    | 22, _ => cases h1
    | i + 23, h => exact absurd (show i + 23 < 23 from h) (by omega)
  · match i, hi with
    | 0, _ => cases hon
    | 1, _ => cases hon
    | 2, _ => cases hon
    | 3, _ => cases hon
    | 4, _ => cases hon
    | 5, _ => cases hon
    | 6, _ => cases hon
    | 7, _ => cases hon
    | 8, _ => cases hon
    | 9, _ => cases hon
    | 10, _ => cases hon
    | 11, _ => cases hon
    | 12, _ => cases hon
    | 13, _ => cases hon
    | 14, _ => cases hon
    | 15, _ => cases hon
    | 16, _ => cases hon
    | 17, _ => cases hon
    | 18, _ => cases hon
    | 19, _ => cases hon
    | 20, _ => cases hon
    | 21, _ => cases hon
    | 22, _ => cases hon
    | i + 23, h => exact absurd (show i + 23 < 23 from h) (by omega)
  · match i, hi with
    | 0, _ => cases hon
    | 1, _ => cases hon
    | 2, _ => cases hon
    | 3, _ => cases hon
    | 4, _ => cases hon
    | 5, _ => cases hon
    | 6, _ => cases hon
    | 7, _ => cases hon
    | 8, _ => cases hon
    | 9, _ => cases hon
    | 10, _ => cases hon
    | 11, _ => cases hon
    | 12, _ => cases hon
    | 13, _ => cases hon
    | 14, _ => cases hon
    | 15, _ => cases hon
    | 16, _ => cases hon
    | 17, _ => cases hon
    | 18, _ => cases hon
    | 19, _ => cases hon
    | 20, _ => cases hon
    | 21, _ => cases hon
    | 22, _ => cases hon
    | i + 23, h => exact absurd (show i + 23 < 23 from h) (by omega)
  · exact (Below.refl _ _).drew
  · intro i oo ho hi hon don a w hT hU hdi hM K hK
    rw [hds] at hT
    have hT0 : ∀ t v, t ∉ ([9, 10, 11, 12, 13, 14, 15, 16, 17, 18, 19, 20, 21, 22, 23, 24, 25, 26, 27, 28, 29, 30, 8] : List Nat) → T0[t]? = some v → a.tmps[t]?.getD undef = v := fun t v ht hv => by rw [hT t ht, hv]; rfl
    match i, hi with
    | 0, _ => exact v_moveS 0 (opAtW ho (by kernel_rfl)) (hT0 0 _ (by decide) h0) (hK w hM)
    | 1, _ => exact v_moveS 2 (opAtW ho (by kernel_rfl)) (hT0 2 _ (by decide) h2) (hK w hM)
    | 2, _ => exact u_nilS 9 (opAtW ho (by kernel_rfl)) ((hU 0 (by kernel_rfl)).2 9 rfl) (hK w hM)
    | 3, _ => exact u_f66_3 11 (opAtW ho (by kernel_rfl)) ((hU 2 (by kernel_rfl)).2 11 rfl) (hK w hM)
    | 4, _ => exact u_i59 12 10 (k := s) hs (opAtW ho (by kernel_rfl)) ((hU 3 (by kernel_rfl)).2 12 rfl) ((hU 1 (by kernel_rfl)).2 10 rfl) (hK w hM)
    | 5, _ => exact u_load58 13 (opAtW ho (by kernel_rfl)) ((hU 4 (by kernel_rfl)).2 13 rfl) (⟨(HD w hM).1, (HD w hM).2.1⟩) (hK w hM)
    | 6, _ => exact v_moveS 3 (opAtW ho (by kernel_rfl)) (hT0 3 _ (by decide) h3) (hK w hM)
    | 7, _ =>
      have x14 : a.tmps[14]?.getD undef = .agg #[.int .i64 x0, .int .i64 x1] := ((hU 5 (by kernel_rfl)).2 14 rfl)
      have x15 : a.tmps[15]?.getD undef = .int .i64 who := ((hU 6 (by kernel_rfl)).2 15 rfl)
      obtain ⟨dst, op, type, pos, after, guard⟩ := oo
      have ho' : op = .call { callee := .value (.func 157), args := #[.tmp 14, .tmp 15], argTypes := #[153, 3] } := opAtW ho (by kernel_rfl)
      subst ho'
      clear ho hT hU hT0
      have hfun := Tryz.func157
      go_simp
      refine (HA.out w).mono ?_
      rintro r w' ⟨rfl, hb⟩
      exact hK w' (hM.trans (hb.mono hM.size))
    | 8, _ => exact v_moveS 16 (opAtW ho (by kernel_rfl)) ((hU 7 (by kernel_rfl)).2 16 rfl) (hK w hM)
    | 9, _ => exact v_moveS 0 (opAtW ho (by kernel_rfl)) (hT0 0 _ (by decide) h0) (hK w hM)
    | 10, _ => exact v_moveS 2 (opAtW ho (by kernel_rfl)) (hT0 2 _ (by decide) h2) (hK w hM)
    | 11, _ => exact u_nilS 18 (opAtW ho (by kernel_rfl)) ((hU 9 (by kernel_rfl)).2 18 rfl) (hK w hM)
    | 12, _ => exact u_f66_3 20 (opAtW ho (by kernel_rfl)) ((hU 11 (by kernel_rfl)).2 20 rfl) (hK w hM)
    | 13, _ => exact u_i59 21 19 (k := s) hs (opAtW ho (by kernel_rfl)) ((hU 12 (by kernel_rfl)).2 21 rfl) ((hU 10 (by kernel_rfl)).2 19 rfl) (hK w hM)
    | 14, _ => exact u_f58_1 22 (opAtW ho (by kernel_rfl)) ((hU 13 (by kernel_rfl)).2 22 rfl) (hK w hM)
    | 15, _ => exact u_loadiS 23 (opAtW ho (by kernel_rfl)) ((hU 14 (by kernel_rfl)).2 23 rfl) ((HD w hM).2.1) (hK w hM)
    | 16, _ => exact v_moveS 1 (opAtW ho (by kernel_rfl)) (hT0 1 _ (by decide) h1) (hK w hM)
    | 17, _ => exact u_nilS 25 (opAtW ho (by kernel_rfl)) ((hU 16 (by kernel_rfl)).2 25 rfl) (hK w hM)
    | 18, _ => exact u_f63_2 26 (opAtW ho (by kernel_rfl)) ((hU 17 (by kernel_rfl)).2 26 rfl) (hK w hM)
    | 19, _ => exact u_loadiS 27 (opAtW ho (by kernel_rfl)) ((hU 18 (by kernel_rfl)).2 27 rfl) ((HD w hM).2.2) (hK w hM)
    | 20, _ => exact u_gtr_i 24 28 (opAtW ho (by kernel_rfl)) ((hU 15 (by kernel_rfl)).2 24 rfl) ((hU 19 (by kernel_rfl)).2 28 rfl) (hr) (hK w hM)
    | 21, _ => exact v_orF 17 29 (opAtW ho (by kernel_rfl)) ((hU 8 (by kernel_rfl)).2 17 rfl) ((hU 20 (by kernel_rfl)).2 29 rfl) (hK w hM)
    | 22, _ => exact v_assignS 30 (opAtW ho (by kernel_rfl)) ((hU 21 (by kernel_rfl)).2 30 rfl) (hK w hM)
    | i + 23, h => exact absurd (show i + 23 < 23 from h) (by omega)
  · intro w hM
    exact hend w (hM)
theorem orM {b : Bool} {A B : Prop} (h : (b = true → A) ∧ (b = false → B)) : A ∨ B := by
  cases b with
  | false => exact .inr (h.2 rfl)
  | true => exact .inl (h.1 rfl)
noncomputable def rgHeldF_ops : Array Oper := opsW Tryz.f142 1
def rgHeldF_D : List (Option Nat) := [some 9, some 10, some 11, some 12, some 13, some 14, some 15, some 16, some 17, some 18, some 19, some 20, some 21, some 8]
set_option maxRecDepth 100000 in
set_option maxHeartbeats 4000000 in
theorem rgHeldF {id : Nat} {ops : Array Oper} (hops : ops = rgHeldF_ops) (T0 : Array Value) (hsz : 22 ≤ T0.size) (W : World) (g s o : Nat) (hs : s < 32) (x0 x1 x2 who : Int) (b : Nat) (HD : ∀ w1, Below W.heap.size W w1 → w1.cell? ⟨g, 5 + s * 2, none⟩ = some (.int .i64 x0) ∧ w1.cell? ⟨g, 5 + s * 2 + 1, none⟩ = some (.int .i64 x1) ∧ w1.cell? ⟨g, o + 2, none⟩ = some (.int .i64 x2)) (HE : ∀ w1, Below W.heap.size W w1 → w1.cell? ⟨b, 1, none⟩ = some (.int .i64 who)) (HA : Hid (∀ w1, Calls Tryz.prog 157 #[.agg #[.int .i64 x0, .int .i64 x1], .int .i64 who] w1 fun e w' => e = .returned (.bool false) ∧ Below w1.heap.size w1 w')) (h0 : T0[0]? = some (.pointer (some ⟨g, 0, none⟩))) (h1 : T0[1]? = some (.pointer (some ⟨g, o, none⟩))) (h2 : T0[2]? = some (.int .i64 (s : Int))) (h7 : T0[7]? = some (.pointer (some ⟨b, 0, none⟩))) {Q : Exit → Act → World → Prop}
    (hend : ∀ w : World, Below W.heap.size W w → Q .normal ⟨putAll T0 [9, 10, 11, 12, 13, 14, 15, 16, 17, 18, 19, 20, 21, 8] [.pointer (some ⟨g, 0, none⟩), .int .i64 (s : Int), .pointer (some ⟨g, 0, none⟩), .pointer (some ⟨g, 5, none⟩), .pointer (some ⟨g, 5 + s * 2, none⟩), .agg #[.int .i64 x0, .int .i64 x1], .pointer (some ⟨b, 1, none⟩), .int .i64 who, .bool false, .bool false, undef, undef, .bool false, .bool false], []⟩ w) : (Code.region id ops true).wp Tryz.prog Q ⟨T0, []⟩ W := by
  subst hops
  have hos : rgHeldF_ops.size = 14 := by kernel_rfl
  have hga : (List.range 14).all (fun i => match rgHeldF_ops[i]? with | some o => o.guard == ([none, none, none, none, none, none, none, none, none, none, some (9, true), some (9, true), none, none] : List (Option (Nat × Bool))).getD i none | none => false) = true := by kernel_rfl
  have hds : ((pairsS rgHeldF_D ([.pointer (some ⟨g, 0, none⟩), .int .i64 (s : Int), .pointer (some ⟨g, 0, none⟩), .pointer (some ⟨g, 5, none⟩), .pointer (some ⟨g, 5 + s * 2, none⟩), .agg #[.int .i64 x0, .int .i64 x1], .pointer (some ⟨b, 1, none⟩), .int .i64 who, .bool false, .bool false, undef, undef, .bool false, .bool false] : List Value)).map (·.1)) = [9, 10, 11, 12, 13, 14, 15, 16, 17, 18, 19, 20, 21, 8] := rfl
  refine wp_region_valsG ([.pointer (some ⟨g, 0, none⟩), .int .i64 (s : Int), .pointer (some ⟨g, 0, none⟩), .pointer (some ⟨g, 5, none⟩), .pointer (some ⟨g, 5 + s * 2, none⟩), .agg #[.int .i64 x0, .int .i64 x1], .pointer (some ⟨b, 1, none⟩), .int .i64 who, .bool false, .bool false, undef, undef, .bool false, .bool false] : List Value) [true, true, true, true, true, true, true, true, true, true, false, false, true, true] rgHeldF_D (fun _ w => Below W.heap.size W w) W T0 (by rw [hds]; decide) (fun x hx => ?_) (by kernel_rfl) (by kernel_rfl) (fun i o j want ho hg => ?_) (fun i hi hon => ?_) (fun i hi hon don w hM => ?_) ?_ ?_ ?_
  · rw [hds] at hx
    have hall : (([9, 10, 11, 12, 13, 14, 15, 16, 17, 18, 19, 20, 21, 8] : List Nat).all fun d => decide (d < 22)) = true := by decide
    have := List.all_eq_true.1 hall x hx
    simp only [decide_eq_true_eq] at this
    omega
  · have hi : i < 14 := by rw [← hos]; exact (Array.getElem?_eq_some_iff.1 ho).1
    have h1 := List.all_eq_true.1 hga i (by simpa using hi)
    rw [ho] at h1
    simp only [hg, beq_iff_eq] at h1
    match i, hi with
    | 0, _ => cases h1
    | 1, _ => cases h1
    | 2, _ => cases h1
    | 3, _ => cases h1
    | 4, _ => cases h1
    | 5, _ => cases h1
    | 6, _ => cases h1
    | 7, _ => cases h1
    | 8, _ => cases h1
    | 9, _ => cases h1
    | 10, _ => obtain ⟨rfl, rfl⟩ := Prod.mk.inj (Option.some.inj h1); rfl
    | 11, _ => obtain ⟨rfl, rfl⟩ := Prod.mk.inj (Option.some.inj h1); rfl
    | 12, _ => cases h1
    | 13, _ => cases h1
    | i + 14, h => exact absurd (show i + 14 < 14 from h) (by omega)
  · match i, hi with
    | 0, _ => cases hon
    | 1, _ => cases hon
    | 2, _ => cases hon
    | 3, _ => cases hon
    | 4, _ => cases hon
    | 5, _ => cases hon
    | 6, _ => cases hon
    | 7, _ => cases hon
    | 8, _ => cases hon
    | 9, _ => cases hon
    | 10, _ => rfl
    | 11, _ => rfl
    | 12, _ => cases hon
    | 13, _ => cases hon
    | i + 14, h => exact absurd (show i + 14 < 14 from h) (by omega)
  · match i, hi with
    | 0, _ => cases hon
    | 1, _ => cases hon
    | 2, _ => cases hon
    | 3, _ => cases hon
    | 4, _ => cases hon
    | 5, _ => cases hon
    | 6, _ => cases hon
    | 7, _ => cases hon
    | 8, _ => cases hon
    | 9, _ => cases hon
    | 10, _ => exact hM
    | 11, _ => exact hM
    | 12, _ => cases hon
    | 13, _ => cases hon
    | i + 14, h => exact absurd (show i + 14 < 14 from h) (by omega)
  · exact (Below.refl _ _).drew
  · intro i oo ho hi hon don a w hT hU hdi hM K hK
    rw [hds] at hT
    have hT0 : ∀ t v, t ∉ ([9, 10, 11, 12, 13, 14, 15, 16, 17, 18, 19, 20, 21, 8] : List Nat) → T0[t]? = some v → a.tmps[t]?.getD undef = v := fun t v ht hv => by rw [hT t ht, hv]; rfl
    match i, hi with
    | 0, _ => exact v_moveS 0 (opAtW ho (by kernel_rfl)) (hT0 0 _ (by decide) h0) (hK w hM)
    | 1, _ => exact v_moveS 2 (opAtW ho (by kernel_rfl)) (hT0 2 _ (by decide) h2) (hK w hM)
    | 2, _ => exact u_nilS 9 (opAtW ho (by kernel_rfl)) ((hU 0 (by kernel_rfl)).2 9 rfl) (hK w hM)
    | 3, _ => exact u_f66_3 11 (opAtW ho (by kernel_rfl)) ((hU 2 (by kernel_rfl)).2 11 rfl) (hK w hM)
    | 4, _ => exact u_i59 12 10 (k := s) hs (opAtW ho (by kernel_rfl)) ((hU 3 (by kernel_rfl)).2 12 rfl) ((hU 1 (by kernel_rfl)).2 10 rfl) (hK w hM)
    | 5, _ => exact u_load58 13 (opAtW ho (by kernel_rfl)) ((hU 4 (by kernel_rfl)).2 13 rfl) (⟨(HD w hM).1, (HD w hM).2.1⟩) (hK w hM)
    | 6, _ => exact u_f27_1 7 (opAtW ho (by kernel_rfl)) (hT0 7 _ (by decide) h7) (hK w hM)
    | 7, _ => exact u_loadiS 15 (opAtW ho (by kernel_rfl)) ((hU 6 (by kernel_rfl)).2 15 rfl) (HE w hM) (hK w hM)
    | 8, _ =>
      have x14 : a.tmps[14]?.getD undef = .agg #[.int .i64 x0, .int .i64 x1] := ((hU 5 (by kernel_rfl)).2 14 rfl)
      have x16 : a.tmps[16]?.getD undef = .int .i64 who := ((hU 7 (by kernel_rfl)).2 16 rfl)
      obtain ⟨dst, op, type, pos, after, guard⟩ := oo
      have ho' : op = .call { callee := .value (.func 157), args := #[.tmp 14, .tmp 16], argTypes := #[153, 3] } := opAtW ho (by kernel_rfl)
      subst ho'
      clear ho hT hU hT0
      have hfun := Tryz.func157
      go_simp
      refine (HA.out w).mono ?_
      rintro r w' ⟨rfl, hb⟩
      exact hK w' (hM.trans (hb.mono hM.size))
    | 9, _ => exact v_moveS 17 (opAtW ho (by kernel_rfl)) ((hU 8 (by kernel_rfl)).2 17 rfl) (hK w hM)
    | 10, _ => exact absurd hon (by decide)
    | 11, _ => exact absurd hon (by decide)
    | 12, _ => exact u_andF 18 20 (opAtW ho (by kernel_rfl)) ((hU 9 (by kernel_rfl)).2 18 rfl) (hK w hM)
    | 13, _ => exact v_assignS 21 (opAtW ho (by kernel_rfl)) ((hU 12 (by kernel_rfl)).2 21 rfl) (hK w hM)
    | i + 14, h => exact absurd (show i + 14 < 14 from h) (by omega)
  · intro w hM
    exact hend w (hM)
noncomputable def rgHeldT_ops : Array Oper := opsW Tryz.f142 1
def rgHeldT_D : List (Option Nat) := [some 9, some 10, some 11, some 12, some 13, some 14, some 15, some 16, some 17, some 18, some 19, some 20, some 21, some 8]
set_option maxRecDepth 100000 in
set_option maxHeartbeats 4000000 in
theorem rgHeldT {id : Nat} {ops : Array Oper} (hops : ops = rgHeldT_ops) (T0 : Array Value) (hsz : 22 ≤ T0.size) (W : World) (R : World → Prop) (HRB : ∀ w1 w', R w1 → Below w1.heap.size w1 w' → R w') (g s o : Nat) (hs : s < 32) (x0 x1 x2 who : Int) (b : Nat) (HD : ∀ w1, R w1 ∨ Below W.heap.size W w1 → w1.cell? ⟨g, 5 + s * 2, none⟩ = some (.int .i64 x0) ∧ w1.cell? ⟨g, 5 + s * 2 + 1, none⟩ = some (.int .i64 x1) ∧ w1.cell? ⟨g, o + 2, none⟩ = some (.int .i64 x2)) (HE : ∀ w1, R w1 ∨ Below W.heap.size W w1 → w1.cell? ⟨b, 1, none⟩ = some (.int .i64 who)) (HA : Hid (∀ w1, Calls Tryz.prog 157 #[.agg #[.int .i64 x0, .int .i64 x1], .int .i64 who] w1 fun e w' => e = .returned (.bool true) ∧ Below w1.heap.size w1 w')) (HG : Hid (∀ w1, Below W.heap.size W w1 → Calls Tryz.prog 156 #[.pointer (some ⟨g, o, none⟩), .int .i64 0] w1 fun e w' => e = .returned (.bool true) ∧ R w')) (h0 : T0[0]? = some (.pointer (some ⟨g, 0, none⟩))) (h1 : T0[1]? = some (.pointer (some ⟨g, o, none⟩))) (h2 : T0[2]? = some (.int .i64 (s : Int))) (h7 : T0[7]? = some (.pointer (some ⟨b, 0, none⟩))) {Q : Exit → Act → World → Prop}
    (hend : ∀ w : World, R w → Q .normal ⟨putAll T0 [9, 10, 11, 12, 13, 14, 15, 16, 17, 18, 19, 20, 21, 8] [.pointer (some ⟨g, 0, none⟩), .int .i64 (s : Int), .pointer (some ⟨g, 0, none⟩), .pointer (some ⟨g, 5, none⟩), .pointer (some ⟨g, 5 + s * 2, none⟩), .agg #[.int .i64 x0, .int .i64 x1], .pointer (some ⟨b, 1, none⟩), .int .i64 who, .bool true, .bool true, .pointer (some ⟨g, o, none⟩), .bool true, .bool true, .bool true], []⟩ w) : (Code.region id ops true).wp Tryz.prog Q ⟨T0, []⟩ W := by
  subst hops
  have hos : rgHeldT_ops.size = 14 := by kernel_rfl
  have hga : (List.range 14).all (fun i => match rgHeldT_ops[i]? with | some o => o.guard == ([none, none, none, none, none, none, none, none, none, none, some (9, true), some (9, true), none, none] : List (Option (Nat × Bool))).getD i none | none => false) = true := by kernel_rfl
  have hds : ((pairsS rgHeldT_D ([.pointer (some ⟨g, 0, none⟩), .int .i64 (s : Int), .pointer (some ⟨g, 0, none⟩), .pointer (some ⟨g, 5, none⟩), .pointer (some ⟨g, 5 + s * 2, none⟩), .agg #[.int .i64 x0, .int .i64 x1], .pointer (some ⟨b, 1, none⟩), .int .i64 who, .bool true, .bool true, .pointer (some ⟨g, o, none⟩), .bool true, .bool true, .bool true] : List Value)).map (·.1)) = [9, 10, 11, 12, 13, 14, 15, 16, 17, 18, 19, 20, 21, 8] := rfl
  refine wp_region_valsG ([.pointer (some ⟨g, 0, none⟩), .int .i64 (s : Int), .pointer (some ⟨g, 0, none⟩), .pointer (some ⟨g, 5, none⟩), .pointer (some ⟨g, 5 + s * 2, none⟩), .agg #[.int .i64 x0, .int .i64 x1], .pointer (some ⟨b, 1, none⟩), .int .i64 who, .bool true, .bool true, .pointer (some ⟨g, o, none⟩), .bool true, .bool true, .bool true] : List Value) [true, true, true, true, true, true, true, true, true, true, true, true, true, true] rgHeldT_D (fun don w => (don 11 = true → R w) ∧ (don 11 = false → Below W.heap.size W w)) W T0 (by rw [hds]; decide) (fun x hx => ?_) (by kernel_rfl) (by kernel_rfl) (fun i o j want ho hg => ?_) (fun i hi hon => ?_) (fun i hi hon don w hM => ?_) ?_ ?_ ?_
  · rw [hds] at hx
    have hall : (([9, 10, 11, 12, 13, 14, 15, 16, 17, 18, 19, 20, 21, 8] : List Nat).all fun d => decide (d < 22)) = true := by decide
    have := List.all_eq_true.1 hall x hx
    simp only [decide_eq_true_eq] at this
    omega
  · have hi : i < 14 := by rw [← hos]; exact (Array.getElem?_eq_some_iff.1 ho).1
    have h1 := List.all_eq_true.1 hga i (by simpa using hi)
    rw [ho] at h1
    simp only [hg, beq_iff_eq] at h1
    match i, hi with
    | 0, _ => cases h1
    | 1, _ => cases h1
    | 2, _ => cases h1
    | 3, _ => cases h1
    | 4, _ => cases h1
    | 5, _ => cases h1
    | 6, _ => cases h1
    | 7, _ => cases h1
    | 8, _ => cases h1
    | 9, _ => cases h1
    | 10, _ => obtain ⟨rfl, rfl⟩ := Prod.mk.inj (Option.some.inj h1); rfl
    | 11, _ => obtain ⟨rfl, rfl⟩ := Prod.mk.inj (Option.some.inj h1); rfl
    | 12, _ => cases h1
    | 13, _ => cases h1
    | i + 14, h => exact absurd (show i + 14 < 14 from h) (by omega)
  · match i, hi with
    | 0, _ => cases hon
    | 1, _ => cases hon
    | 2, _ => cases hon
    | 3, _ => cases hon
    | 4, _ => cases hon
    | 5, _ => cases hon
    | 6, _ => cases hon
    | 7, _ => cases hon
    | 8, _ => cases hon
    | 9, _ => cases hon
    | 10, _ => cases hon
    | 11, _ => cases hon
    | 12, _ => cases hon
    | 13, _ => cases hon
    | i + 14, h => exact absurd (show i + 14 < 14 from h) (by omega)
  · match i, hi with
    | 0, _ => cases hon
    | 1, _ => cases hon
    | 2, _ => cases hon
    | 3, _ => cases hon
    | 4, _ => cases hon
    | 5, _ => cases hon
    | 6, _ => cases hon
    | 7, _ => cases hon
    | 8, _ => cases hon
    | 9, _ => cases hon
    | 10, _ => cases hon
    | 11, _ => cases hon
    | 12, _ => cases hon
    | 13, _ => cases hon
    | i + 14, h => exact absurd (show i + 14 < 14 from h) (by omega)
  · exact ⟨fun h => (by cases h), fun _ => (Below.refl _ _).drew⟩
  · intro i oo ho hi hon don a w hT hU hdi hM K hK
    rw [hds] at hT
    have hT0 : ∀ t v, t ∉ ([9, 10, 11, 12, 13, 14, 15, 16, 17, 18, 19, 20, 21, 8] : List Nat) → T0[t]? = some v → a.tmps[t]?.getD undef = v := fun t v ht hv => by rw [hT t ht, hv]; rfl
    match i, hi with
    | 0, _ => exact v_moveS 0 (opAtW ho (by kernel_rfl)) (hT0 0 _ (by decide) h0) (hK w hM)
    | 1, _ => exact v_moveS 2 (opAtW ho (by kernel_rfl)) (hT0 2 _ (by decide) h2) (hK w hM)
    | 2, _ => exact u_nilS 9 (opAtW ho (by kernel_rfl)) ((hU 0 (by kernel_rfl)).2 9 rfl) (hK w hM)
    | 3, _ => exact u_f66_3 11 (opAtW ho (by kernel_rfl)) ((hU 2 (by kernel_rfl)).2 11 rfl) (hK w hM)
    | 4, _ => exact u_i59 12 10 (k := s) hs (opAtW ho (by kernel_rfl)) ((hU 3 (by kernel_rfl)).2 12 rfl) ((hU 1 (by kernel_rfl)).2 10 rfl) (hK w hM)
    | 5, _ => exact u_load58 13 (opAtW ho (by kernel_rfl)) ((hU 4 (by kernel_rfl)).2 13 rfl) (⟨(HD w (orM hM)).1, (HD w (orM hM)).2.1⟩) (hK w hM)
    | 6, _ => exact u_f27_1 7 (opAtW ho (by kernel_rfl)) (hT0 7 _ (by decide) h7) (hK w hM)
    | 7, _ => exact u_loadiS 15 (opAtW ho (by kernel_rfl)) ((hU 6 (by kernel_rfl)).2 15 rfl) (HE w (orM hM)) (hK w hM)
    | 8, _ =>
      have x14 : a.tmps[14]?.getD undef = .agg #[.int .i64 x0, .int .i64 x1] := ((hU 5 (by kernel_rfl)).2 14 rfl)
      have x16 : a.tmps[16]?.getD undef = .int .i64 who := ((hU 7 (by kernel_rfl)).2 16 rfl)
      obtain ⟨dst, op, type, pos, after, guard⟩ := oo
      have ho' : op = .call { callee := .value (.func 157), args := #[.tmp 14, .tmp 16], argTypes := #[153, 3] } := opAtW ho (by kernel_rfl)
      subst ho'
      clear ho hT hU hT0
      have hfun := Tryz.func157
      go_simp
      refine (HA.out w).mono ?_
      rintro r w' ⟨rfl, hb⟩
      exact hK w' ⟨fun h => HRB _ _ (hM.1 h) hb, fun h => (hM.2 h).trans (hb.mono (hM.2 h).size)⟩
    | 9, _ => exact v_moveS 17 (opAtW ho (by kernel_rfl)) ((hU 8 (by kernel_rfl)).2 17 rfl) (hK w hM)
    | 10, _ => exact v_moveS 1 (opAtW ho (by kernel_rfl)) (hT0 1 _ (by decide) h1) (hK w hM)
    | 11, _ =>
      have x19 : a.tmps[19]?.getD undef = .pointer (some ⟨g, o, none⟩) := ((hU 10 (by kernel_rfl)).2 19 rfl)
      obtain ⟨dst, op, type, pos, after, guard⟩ := oo
      have ho' : op = .call { callee := .value (.func 156), args := #[.tmp 19, .const (.int .i64 0)], argTypes := #[190, 3] } := opAtW ho (by kernel_rfl)
      subst ho'
      clear ho hT hU hT0
      have hfun := Tryz.func156
      go_simp
      refine (HG.out w (hM.2 hdi)).mono ?_
      rintro r w' ⟨rfl, hR⟩
      exact hK w' ⟨fun _ => hR, fun h => absurd h (by simp)⟩
    | 12, _ => exact v_andT 18 20 (opAtW ho (by kernel_rfl)) ((hU 9 (by kernel_rfl)).2 18 rfl) ((hU 11 (by kernel_rfl)).2 20 rfl) (hK w hM)
    | 13, _ => exact v_assignS 21 (opAtW ho (by kernel_rfl)) ((hU 12 (by kernel_rfl)).2 21 rfl) (hK w hM)
    | i + 14, h => exact absurd (show i + 14 < 14 from h) (by omega)
  · intro w hM
    exact hend w (hM.1 (by decide))
noncomputable def rgNewA_ops : Array Oper := opsW Tryz.f143 1
def rgNewA_D : List (Option Nat) := [some 9, some 10, some 11, some 12, some 13, some 14, some 15, some 16, some 17, some 18, some 19, some 20, some 21, some 22, some 23, some 24, some 25, some 26, some 27, some 28, some 29, some 30, some 31, some 32, some 33, some 34, some 8]
set_option maxRecDepth 100000 in
set_option maxHeartbeats 4000000 in
theorem rgNewA {id : Nat} {ops : Array Oper} (hops : ops = rgNewA_ops) (T0 : Array Value) (hsz : 35 ≤ T0.size) (W : World) (g s o : Nat) (hs : s < 32) (x0 x1 x2 : Int) (b : Nat) (q1 : (x0 == -1) = false) (HD : ∀ w1, Below W.heap.size W w1 → w1.cell? ⟨g, 5 + s * 2, none⟩ = some (.int .i64 x0) ∧ w1.cell? ⟨g, 5 + s * 2 + 1, none⟩ = some (.int .i64 x1) ∧ w1.cell? ⟨g, o + 2, none⟩ = some (.int .i64 x2)) (h0 : T0[0]? = some (.pointer (some ⟨g, 0, none⟩))) (h1 : T0[1]? = some (.pointer (some ⟨g, o, none⟩))) (h2 : T0[2]? = some (.int .i64 (s : Int))) (h7 : T0[7]? = some (.pointer (some ⟨b, 0, none⟩))) {Q : Exit → Act → World → Prop}
    (hend : ∀ w : World, Below W.heap.size W w → Q .normal ⟨putAll T0 [9, 10, 11, 12, 13, 14, 15, 16, 17, 18, 19, 20, 21, 22, 23, 24, 25, 26, 27, 28, 29, 30, 31, 32, 33, 34, 8] [.pointer (some ⟨g, 0, none⟩), .int .i64 (s : Int), .pointer (some ⟨g, 0, none⟩), .pointer (some ⟨g, 5, none⟩), .pointer (some ⟨g, 5 + s * 2, none⟩), .pointer (some ⟨g, 5 + s * 2, none⟩), .int .i64 x0, .bool false, .bool false, undef, undef, undef, undef, undef, undef, undef, undef, undef, undef, undef, undef, .bool false, .bool false, undef, undef, .bool false, .bool false], []⟩ w) : (Code.region id ops true).wp Tryz.prog Q ⟨T0, []⟩ W := by
  subst hops
  have hos : rgNewA_ops.size = 27 := by kernel_rfl
  have hga : (List.range 27).all (fun i => match rgNewA_ops[i]? with | some o => o.guard == ([none, none, none, none, none, none, none, none, none, some (8, true), some (8, true), some (8, true), some (8, true), some (8, true), some (8, true), some (8, true), some (8, true), some (8, true), some (8, true), some (8, true), some (8, true), none, none, some (22, true), some (22, true), none, none] : List (Option (Nat × Bool))).getD i none | none => false) = true := by kernel_rfl
  have hds : ((pairsS rgNewA_D ([.pointer (some ⟨g, 0, none⟩), .int .i64 (s : Int), .pointer (some ⟨g, 0, none⟩), .pointer (some ⟨g, 5, none⟩), .pointer (some ⟨g, 5 + s * 2, none⟩), .pointer (some ⟨g, 5 + s * 2, none⟩), .int .i64 x0, .bool false, .bool false, undef, undef, undef, undef, undef, undef, undef, undef, undef, undef, undef, undef, .bool false, .bool false, undef, undef, .bool false, .bool false] : List Value)).map (·.1)) = [9, 10, 11, 12, 13, 14, 15, 16, 17, 18, 19, 20, 21, 22, 23, 24, 25, 26, 27, 28, 29, 30, 31, 32, 33, 34, 8] := rfl
  refine wp_region_valsG ([.pointer (some ⟨g, 0, none⟩), .int .i64 (s : Int), .pointer (some ⟨g, 0, none⟩), .pointer (some ⟨g, 5, none⟩), .pointer (some ⟨g, 5 + s * 2, none⟩), .pointer (some ⟨g, 5 + s * 2, none⟩), .int .i64 x0, .bool false, .bool false, undef, undef, undef, undef, undef, undef, undef, undef, undef, undef, undef, undef, .bool false, .bool false, undef, undef, .bool false, .bool false] : List Value) [true, true, true, true, true, true, true, true, true, false, false, false, false, false, false, false, false, false, false, false, false, true, true, false, false, true, true] rgNewA_D (fun _ w => Below W.heap.size W w) W T0 (by rw [hds]; decide) (fun x hx => ?_) (by kernel_rfl) (by kernel_rfl) (fun i o j want ho hg => ?_) (fun i hi hon => ?_) (fun i hi hon don w hM => ?_) ?_ ?_ ?_
  · rw [hds] at hx
    have hall : (([9, 10, 11, 12, 13, 14, 15, 16, 17, 18, 19, 20, 21, 22, 23, 24, 25, 26, 27, 28, 29, 30, 31, 32, 33, 34, 8] : List Nat).all fun d => decide (d < 35)) = true := by decide
    have := List.all_eq_true.1 hall x hx
    simp only [decide_eq_true_eq] at this
    omega
  · have hi : i < 27 := by rw [← hos]; exact (Array.getElem?_eq_some_iff.1 ho).1
    have h1 := List.all_eq_true.1 hga i (by simpa using hi)
    rw [ho] at h1
    simp only [hg, beq_iff_eq] at h1
    match i, hi with
    | 0, _ => cases h1
    | 1, _ => cases h1
    | 2, _ => cases h1
    | 3, _ => cases h1
    | 4, _ => cases h1
    | 5, _ => cases h1
    | 6, _ => cases h1
    | 7, _ => cases h1
    | 8, _ => cases h1
    | 9, _ => obtain ⟨rfl, rfl⟩ := Prod.mk.inj (Option.some.inj h1); rfl
    | 10, _ => obtain ⟨rfl, rfl⟩ := Prod.mk.inj (Option.some.inj h1); rfl
    | 11, _ => obtain ⟨rfl, rfl⟩ := Prod.mk.inj (Option.some.inj h1); rfl
    | 12, _ => obtain ⟨rfl, rfl⟩ := Prod.mk.inj (Option.some.inj h1); rfl
    | 13, _ => obtain ⟨rfl, rfl⟩ := Prod.mk.inj (Option.some.inj h1); rfl
    | 14, _ => obtain ⟨rfl, rfl⟩ := Prod.mk.inj (Option.some.inj h1); rfl
    | 15, _ => obtain ⟨rfl, rfl⟩ := Prod.mk.inj (Option.some.inj h1); rfl
    | 16, _ => obtain ⟨rfl, rfl⟩ := Prod.mk.inj (Option.some.inj h1); rfl
    | 17, _ => obtain ⟨rfl, rfl⟩ := Prod.mk.inj (Option.some.inj h1); rfl
    | 18, _ => obtain ⟨rfl, rfl⟩ := Prod.mk.inj (Option.some.inj h1); rfl
    | 19, _ => obtain ⟨rfl, rfl⟩ := Prod.mk.inj (Option.some.inj h1); rfl
    | 20, _ => obtain ⟨rfl, rfl⟩ := Prod.mk.inj (Option.some.inj h1); rfl
    | 21, _ => cases h1
    | 22, _ => cases h1
    | 23, _ => obtain ⟨rfl, rfl⟩ := Prod.mk.inj (Option.some.inj h1); rfl
    | 24, _ => obtain ⟨rfl, rfl⟩ := Prod.mk.inj (Option.some.inj h1); rfl
    | 25, _ => cases h1
    | 26, _ => cases h1
    | i + 27, h => exact absurd (show i + 27 < 27 from h) (by omega)
  · match i, hi with
    | 0, _ => cases hon
    | 1, _ => cases hon
    | 2, _ => cases hon
    | 3, _ => cases hon
    | 4, _ => cases hon
    | 5, _ => cases hon
    | 6, _ => cases hon
    | 7, _ => cases hon
    | 8, _ => cases hon
    | 9, _ => rfl
    | 10, _ => rfl
    | 11, _ => rfl
    | 12, _ => rfl
    | 13, _ => rfl
    | 14, _ => rfl
    | 15, _ => rfl
    | 16, _ => rfl
    | 17, _ => rfl
    | 18, _ => rfl
    | 19, _ => rfl
    | 20, _ => rfl
    | 21, _ => cases hon
    | 22, _ => cases hon
    | 23, _ => rfl
    | 24, _ => rfl
    | 25, _ => cases hon
    | 26, _ => cases hon
    | i + 27, h => exact absurd (show i + 27 < 27 from h) (by omega)
  · match i, hi with
    | 0, _ => cases hon
    | 1, _ => cases hon
    | 2, _ => cases hon
    | 3, _ => cases hon
    | 4, _ => cases hon
    | 5, _ => cases hon
    | 6, _ => cases hon
    | 7, _ => cases hon
    | 8, _ => cases hon
    | 9, _ => exact hM
    | 10, _ => exact hM
    | 11, _ => exact hM
    | 12, _ => exact hM
    | 13, _ => exact hM
    | 14, _ => exact hM
    | 15, _ => exact hM
    | 16, _ => exact hM
    | 17, _ => exact hM
    | 18, _ => exact hM
    | 19, _ => exact hM
    | 20, _ => exact hM
    | 21, _ => cases hon
    | 22, _ => cases hon
    | 23, _ => exact hM
    | 24, _ => exact hM
    | 25, _ => cases hon
    | 26, _ => cases hon
    | i + 27, h => exact absurd (show i + 27 < 27 from h) (by omega)
  · exact (Below.refl _ _).drew
  · intro i oo ho hi hon don a w hT hU hdi hM K hK
    rw [hds] at hT
    have hT0 : ∀ t v, t ∉ ([9, 10, 11, 12, 13, 14, 15, 16, 17, 18, 19, 20, 21, 22, 23, 24, 25, 26, 27, 28, 29, 30, 31, 32, 33, 34, 8] : List Nat) → T0[t]? = some v → a.tmps[t]?.getD undef = v := fun t v ht hv => by rw [hT t ht, hv]; rfl
    match i, hi with
    | 0, _ => exact v_moveS 0 (opAtW ho (by kernel_rfl)) (hT0 0 _ (by decide) h0) (hK w hM)
    | 1, _ => exact v_moveS 2 (opAtW ho (by kernel_rfl)) (hT0 2 _ (by decide) h2) (hK w hM)
    | 2, _ => exact u_nilS 9 (opAtW ho (by kernel_rfl)) ((hU 0 (by kernel_rfl)).2 9 rfl) (hK w hM)
    | 3, _ => exact u_f66_3 11 (opAtW ho (by kernel_rfl)) ((hU 2 (by kernel_rfl)).2 11 rfl) (hK w hM)
    | 4, _ => exact u_i59 12 10 (k := s) hs (opAtW ho (by kernel_rfl)) ((hU 3 (by kernel_rfl)).2 12 rfl) ((hU 1 (by kernel_rfl)).2 10 rfl) (hK w hM)
    | 5, _ => exact u_f58_0 13 (opAtW ho (by kernel_rfl)) ((hU 4 (by kernel_rfl)).2 13 rfl) (hK w hM)
    | 6, _ => exact u_loadiS 14 (opAtW ho (by kernel_rfl)) ((hU 5 (by kernel_rfl)).2 14 rfl) ((HD w hM).1) (hK w hM)
    | 7, _ => exact u_eql_ic 15 (opAtW ho (by kernel_rfl)) ((hU 6 (by kernel_rfl)).2 15 rfl) (q1) (hK w hM)
    | 8, _ => exact v_moveS 16 (opAtW ho (by kernel_rfl)) ((hU 7 (by kernel_rfl)).2 16 rfl) (hK w hM)
    | 9, _ => exact absurd hon (by decide)
    | 10, _ => exact absurd hon (by decide)
    | 11, _ => exact absurd hon (by decide)
    | 12, _ => exact absurd hon (by decide)
    | 13, _ => exact absurd hon (by decide)
    | 14, _ => exact absurd hon (by decide)
    | 15, _ => exact absurd hon (by decide)
    | 16, _ => exact absurd hon (by decide)
    | 17, _ => exact absurd hon (by decide)
    | 18, _ => exact absurd hon (by decide)
    | 19, _ => exact absurd hon (by decide)
    | 20, _ => exact absurd hon (by decide)
    | 21, _ => exact u_andF 17 29 (opAtW ho (by kernel_rfl)) ((hU 8 (by kernel_rfl)).2 17 rfl) (hK w hM)
    | 22, _ => exact v_moveS 30 (opAtW ho (by kernel_rfl)) ((hU 21 (by kernel_rfl)).2 30 rfl) (hK w hM)
    | 23, _ => exact absurd hon (by decide)
    | 24, _ => exact absurd hon (by decide)
    | 25, _ => exact u_andF 31 33 (opAtW ho (by kernel_rfl)) ((hU 22 (by kernel_rfl)).2 31 rfl) (hK w hM)
    | 26, _ => exact v_assignS 34 (opAtW ho (by kernel_rfl)) ((hU 25 (by kernel_rfl)).2 34 rfl) (hK w hM)
    | i + 27, h => exact absurd (show i + 27 < 27 from h) (by omega)
  · intro w hM
    exact hend w (hM)
noncomputable def rgNewB_ops : Array Oper := opsW Tryz.f143 1
def rgNewB_D : List (Option Nat) := [some 9, some 10, some 11, some 12, some 13, some 14, some 15, some 16, some 17, some 18, some 19, some 20, some 21, some 22, some 23, some 24, some 25, some 26, some 27, some 28, some 29, some 30, some 31, some 32, some 33, some 34, some 8]
set_option maxRecDepth 100000 in
set_option maxHeartbeats 4000000 in
theorem rgNewB {id : Nat} {ops : Array Oper} (hops : ops = rgNewB_ops) (T0 : Array Value) (hsz : 35 ≤ T0.size) (W : World) (g s o : Nat) (hs : s < 32) (x0 x1 x2 : Int) (b : Nat) (q1 : (x0 == -1) = true) (q2 : decide (x2 < x1) = false) (HD : ∀ w1, Below W.heap.size W w1 → w1.cell? ⟨g, 5 + s * 2, none⟩ = some (.int .i64 x0) ∧ w1.cell? ⟨g, 5 + s * 2 + 1, none⟩ = some (.int .i64 x1) ∧ w1.cell? ⟨g, o + 2, none⟩ = some (.int .i64 x2)) (h0 : T0[0]? = some (.pointer (some ⟨g, 0, none⟩))) (h1 : T0[1]? = some (.pointer (some ⟨g, o, none⟩))) (h2 : T0[2]? = some (.int .i64 (s : Int))) (h7 : T0[7]? = some (.pointer (some ⟨b, 0, none⟩))) {Q : Exit → Act → World → Prop}
    (hend : ∀ w : World, Below W.heap.size W w → Q .normal ⟨putAll T0 [9, 10, 11, 12, 13, 14, 15, 16, 17, 18, 19, 20, 21, 22, 23, 24, 25, 26, 27, 28, 29, 30, 31, 32, 33, 34, 8] [.pointer (some ⟨g, 0, none⟩), .int .i64 (s : Int), .pointer (some ⟨g, 0, none⟩), .pointer (some ⟨g, 5, none⟩), .pointer (some ⟨g, 5 + s * 2, none⟩), .pointer (some ⟨g, 5 + s * 2, none⟩), .int .i64 x0, .bool true, .bool true, .pointer (some ⟨g, 0, none⟩), .int .i64 (s : Int), .pointer (some ⟨g, 0, none⟩), .pointer (some ⟨g, 5, none⟩), .pointer (some ⟨g, 5 + s * 2, none⟩), .pointer (some ⟨g, 5 + s * 2 + 1, none⟩), .int .i64 x1, .pointer (some ⟨g, o, none⟩), .pointer (some ⟨g, o, none⟩), .pointer (some ⟨g, o + 2, none⟩), .int .i64 x2, .bool false, .bool false, .bool false, undef, undef, .bool false, .bool false], []⟩ w) : (Code.region id ops true).wp Tryz.prog Q ⟨T0, []⟩ W := by
  subst hops
  have hos : rgNewB_ops.size = 27 := by kernel_rfl
  have hga : (List.range 27).all (fun i => match rgNewB_ops[i]? with | some o => o.guard == ([none, none, none, none, none, none, none, none, none, some (8, true), some (8, true), some (8, true), some (8, true), some (8, true), some (8, true), some (8, true), some (8, true), some (8, true), some (8, true), some (8, true), some (8, true), none, none, some (22, true), some (22, true), none, none] : List (Option (Nat × Bool))).getD i none | none => false) = true := by kernel_rfl
  have hds : ((pairsS rgNewB_D ([.pointer (some ⟨g, 0, none⟩), .int .i64 (s : Int), .pointer (some ⟨g, 0, none⟩), .pointer (some ⟨g, 5, none⟩), .pointer (some ⟨g, 5 + s * 2, none⟩), .pointer (some ⟨g, 5 + s * 2, none⟩), .int .i64 x0, .bool true, .bool true, .pointer (some ⟨g, 0, none⟩), .int .i64 (s : Int), .pointer (some ⟨g, 0, none⟩), .pointer (some ⟨g, 5, none⟩), .pointer (some ⟨g, 5 + s * 2, none⟩), .pointer (some ⟨g, 5 + s * 2 + 1, none⟩), .int .i64 x1, .pointer (some ⟨g, o, none⟩), .pointer (some ⟨g, o, none⟩), .pointer (some ⟨g, o + 2, none⟩), .int .i64 x2, .bool false, .bool false, .bool false, undef, undef, .bool false, .bool false] : List Value)).map (·.1)) = [9, 10, 11, 12, 13, 14, 15, 16, 17, 18, 19, 20, 21, 22, 23, 24, 25, 26, 27, 28, 29, 30, 31, 32, 33, 34, 8] := rfl
  refine wp_region_valsG ([.pointer (some ⟨g, 0, none⟩), .int .i64 (s : Int), .pointer (some ⟨g, 0, none⟩), .pointer (some ⟨g, 5, none⟩), .pointer (some ⟨g, 5 + s * 2, none⟩), .pointer (some ⟨g, 5 + s * 2, none⟩), .int .i64 x0, .bool true, .bool true, .pointer (some ⟨g, 0, none⟩), .int .i64 (s : Int), .pointer (some ⟨g, 0, none⟩), .pointer (some ⟨g, 5, none⟩), .pointer (some ⟨g, 5 + s * 2, none⟩), .pointer (some ⟨g, 5 + s * 2 + 1, none⟩), .int .i64 x1, .pointer (some ⟨g, o, none⟩), .pointer (some ⟨g, o, none⟩), .pointer (some ⟨g, o + 2, none⟩), .int .i64 x2, .bool false, .bool false, .bool false, undef, undef, .bool false, .bool false] : List Value) [true, true, true, true, true, true, true, true, true, true, true, true, true, true, true, true, true, true, true, true, true, true, true, false, false, true, true] rgNewB_D (fun _ w => Below W.heap.size W w) W T0 (by rw [hds]; decide) (fun x hx => ?_) (by kernel_rfl) (by kernel_rfl) (fun i o j want ho hg => ?_) (fun i hi hon => ?_) (fun i hi hon don w hM => ?_) ?_ ?_ ?_
  · rw [hds] at hx
    have hall : (([9, 10, 11, 12, 13, 14, 15, 16, 17, 18, 19, 20, 21, 22, 23, 24, 25, 26, 27, 28, 29, 30, 31, 32, 33, 34, 8] : List Nat).all fun d => decide (d < 35)) = true := by decide
    have := List.all_eq_true.1 hall x hx
    simp only [decide_eq_true_eq] at this
    omega
  · have hi : i < 27 := by rw [← hos]; exact (Array.getElem?_eq_some_iff.1 ho).1
    have h1 := List.all_eq_true.1 hga i (by simpa using hi)
    rw [ho] at h1
    simp only [hg, beq_iff_eq] at h1
    match i, hi with
    | 0, _ => cases h1
    | 1, _ => cases h1
    | 2, _ => cases h1
    | 3, _ => cases h1
    | 4, _ => cases h1
    | 5, _ => cases h1
    | 6, _ => cases h1
    | 7, _ => cases h1
    | 8, _ => cases h1
    | 9, _ => obtain ⟨rfl, rfl⟩ := Prod.mk.inj (Option.some.inj h1); rfl
    | 10, _ => obtain ⟨rfl, rfl⟩ := Prod.mk.inj (Option.some.inj h1); rfl
    | 11, _ => obtain ⟨rfl, rfl⟩ := Prod.mk.inj (Option.some.inj h1); rfl
    | 12, _ => obtain ⟨rfl, rfl⟩ := Prod.mk.inj (Option.some.inj h1); rfl
    | 13, _ => obtain ⟨rfl, rfl⟩ := Prod.mk.inj (Option.some.inj h1); rfl
    | 14, _ => obtain ⟨rfl, rfl⟩ := Prod.mk.inj (Option.some.inj h1); rfl
    | 15, _ => obtain ⟨rfl, rfl⟩ := Prod.mk.inj (Option.some.inj h1); rfl
    | 16, _ => obtain ⟨rfl, rfl⟩ := Prod.mk.inj (Option.some.inj h1); rfl
    | 17, _ => obtain ⟨rfl, rfl⟩ := Prod.mk.inj (Option.some.inj h1); rfl
    | 18, _ => obtain ⟨rfl, rfl⟩ := Prod.mk.inj (Option.some.inj h1); rfl
    | 19, _ => obtain ⟨rfl, rfl⟩ := Prod.mk.inj (Option.some.inj h1); rfl
    | 20, _ => obtain ⟨rfl, rfl⟩ := Prod.mk.inj (Option.some.inj h1); rfl
    | 21, _ => cases h1
    | 22, _ => cases h1
    | 23, _ => obtain ⟨rfl, rfl⟩ := Prod.mk.inj (Option.some.inj h1); rfl
    | 24, _ => obtain ⟨rfl, rfl⟩ := Prod.mk.inj (Option.some.inj h1); rfl
    | 25, _ => cases h1
    | 26, _ => cases h1
    | i + 27, h => exact absurd (show i + 27 < 27 from h) (by omega)
  · match i, hi with
    | 0, _ => cases hon
    | 1, _ => cases hon
    | 2, _ => cases hon
    | 3, _ => cases hon
    | 4, _ => cases hon
    | 5, _ => cases hon
    | 6, _ => cases hon
    | 7, _ => cases hon
    | 8, _ => cases hon
    | 9, _ => cases hon
    | 10, _ => cases hon
    | 11, _ => cases hon
    | 12, _ => cases hon
    | 13, _ => cases hon
    | 14, _ => cases hon
    | 15, _ => cases hon
    | 16, _ => cases hon
    | 17, _ => cases hon
    | 18, _ => cases hon
    | 19, _ => cases hon
    | 20, _ => cases hon
    | 21, _ => cases hon
    | 22, _ => cases hon
    | 23, _ => rfl
    | 24, _ => rfl
    | 25, _ => cases hon
    | 26, _ => cases hon
    | i + 27, h => exact absurd (show i + 27 < 27 from h) (by omega)
  · match i, hi with
    | 0, _ => cases hon
    | 1, _ => cases hon
    | 2, _ => cases hon
    | 3, _ => cases hon
    | 4, _ => cases hon
    | 5, _ => cases hon
    | 6, _ => cases hon
    | 7, _ => cases hon
    | 8, _ => cases hon
    | 9, _ => cases hon
    | 10, _ => cases hon
    | 11, _ => cases hon
    | 12, _ => cases hon
    | 13, _ => cases hon
    | 14, _ => cases hon
    | 15, _ => cases hon
    | 16, _ => cases hon
    | 17, _ => cases hon
    | 18, _ => cases hon
    | 19, _ => cases hon
    | 20, _ => cases hon
    | 21, _ => cases hon
    | 22, _ => cases hon
    | 23, _ => exact hM
    | 24, _ => exact hM
    | 25, _ => cases hon
    | 26, _ => cases hon
    | i + 27, h => exact absurd (show i + 27 < 27 from h) (by omega)
  · exact (Below.refl _ _).drew
  · intro i oo ho hi hon don a w hT hU hdi hM K hK
    rw [hds] at hT
    have hT0 : ∀ t v, t ∉ ([9, 10, 11, 12, 13, 14, 15, 16, 17, 18, 19, 20, 21, 22, 23, 24, 25, 26, 27, 28, 29, 30, 31, 32, 33, 34, 8] : List Nat) → T0[t]? = some v → a.tmps[t]?.getD undef = v := fun t v ht hv => by rw [hT t ht, hv]; rfl
    match i, hi with
    | 0, _ => exact v_moveS 0 (opAtW ho (by kernel_rfl)) (hT0 0 _ (by decide) h0) (hK w hM)
    | 1, _ => exact v_moveS 2 (opAtW ho (by kernel_rfl)) (hT0 2 _ (by decide) h2) (hK w hM)
    | 2, _ => exact u_nilS 9 (opAtW ho (by kernel_rfl)) ((hU 0 (by kernel_rfl)).2 9 rfl) (hK w hM)
    | 3, _ => exact u_f66_3 11 (opAtW ho (by kernel_rfl)) ((hU 2 (by kernel_rfl)).2 11 rfl) (hK w hM)
    | 4, _ => exact u_i59 12 10 (k := s) hs (opAtW ho (by kernel_rfl)) ((hU 3 (by kernel_rfl)).2 12 rfl) ((hU 1 (by kernel_rfl)).2 10 rfl) (hK w hM)
    | 5, _ => exact u_f58_0 13 (opAtW ho (by kernel_rfl)) ((hU 4 (by kernel_rfl)).2 13 rfl) (hK w hM)
    | 6, _ => exact u_loadiS 14 (opAtW ho (by kernel_rfl)) ((hU 5 (by kernel_rfl)).2 14 rfl) ((HD w hM).1) (hK w hM)
    | 7, _ => exact u_eql_ic 15 (opAtW ho (by kernel_rfl)) ((hU 6 (by kernel_rfl)).2 15 rfl) (q1) (hK w hM)
    | 8, _ => exact v_moveS 16 (opAtW ho (by kernel_rfl)) ((hU 7 (by kernel_rfl)).2 16 rfl) (hK w hM)
    | 9, _ => exact v_moveS 0 (opAtW ho (by kernel_rfl)) (hT0 0 _ (by decide) h0) (hK w hM)
    | 10, _ => exact v_moveS 2 (opAtW ho (by kernel_rfl)) (hT0 2 _ (by decide) h2) (hK w hM)
    | 11, _ => exact u_nilS 18 (opAtW ho (by kernel_rfl)) ((hU 9 (by kernel_rfl)).2 18 rfl) (hK w hM)
    | 12, _ => exact u_f66_3 20 (opAtW ho (by kernel_rfl)) ((hU 11 (by kernel_rfl)).2 20 rfl) (hK w hM)
    | 13, _ => exact u_i59 21 19 (k := s) hs (opAtW ho (by kernel_rfl)) ((hU 12 (by kernel_rfl)).2 21 rfl) ((hU 10 (by kernel_rfl)).2 19 rfl) (hK w hM)
    | 14, _ => exact u_f58_1 22 (opAtW ho (by kernel_rfl)) ((hU 13 (by kernel_rfl)).2 22 rfl) (hK w hM)
    | 15, _ => exact u_loadiS 23 (opAtW ho (by kernel_rfl)) ((hU 14 (by kernel_rfl)).2 23 rfl) ((HD w hM).2.1) (hK w hM)
    | 16, _ => exact v_moveS 1 (opAtW ho (by kernel_rfl)) (hT0 1 _ (by decide) h1) (hK w hM)
    | 17, _ => exact u_nilS 25 (opAtW ho (by kernel_rfl)) ((hU 16 (by kernel_rfl)).2 25 rfl) (hK w hM)
    | 18, _ => exact u_f63_2 26 (opAtW ho (by kernel_rfl)) ((hU 17 (by kernel_rfl)).2 26 rfl) (hK w hM)
    | 19, _ => exact u_loadiS 27 (opAtW ho (by kernel_rfl)) ((hU 18 (by kernel_rfl)).2 27 rfl) ((HD w hM).2.2) (hK w hM)
    | 20, _ => exact u_gtr_i 24 28 (opAtW ho (by kernel_rfl)) ((hU 15 (by kernel_rfl)).2 24 rfl) ((hU 19 (by kernel_rfl)).2 28 rfl) (q2) (hK w hM)
    | 21, _ => exact v_andT 17 29 (opAtW ho (by kernel_rfl)) ((hU 8 (by kernel_rfl)).2 17 rfl) ((hU 20 (by kernel_rfl)).2 29 rfl) (hK w hM)
    | 22, _ => exact v_moveS 30 (opAtW ho (by kernel_rfl)) ((hU 21 (by kernel_rfl)).2 30 rfl) (hK w hM)
    | 23, _ => exact absurd hon (by decide)
    | 24, _ => exact absurd hon (by decide)
    | 25, _ => exact u_andF 31 33 (opAtW ho (by kernel_rfl)) ((hU 22 (by kernel_rfl)).2 31 rfl) (hK w hM)
    | 26, _ => exact v_assignS 34 (opAtW ho (by kernel_rfl)) ((hU 25 (by kernel_rfl)).2 34 rfl) (hK w hM)
    | i + 27, h => exact absurd (show i + 27 < 27 from h) (by omega)
  · intro w hM
    exact hend w (hM)
noncomputable def rgNewC_ops : Array Oper := opsW Tryz.f143 1
def rgNewC_D : List (Option Nat) := [some 9, some 10, some 11, some 12, some 13, some 14, some 15, some 16, some 17, some 18, some 19, some 20, some 21, some 22, some 23, some 24, some 25, some 26, some 27, some 28, some 29, some 30, some 31, some 32, some 33, some 34, some 8]
set_option maxRecDepth 100000 in
set_option maxHeartbeats 4000000 in
theorem rgNewC {id : Nat} {ops : Array Oper} (hops : ops = rgNewC_ops) (T0 : Array Value) (hsz : 35 ≤ T0.size) (W : World) (R : World → Prop) (HRB : ∀ w1 w', R w1 → Below w1.heap.size w1 w' → R w') (g s o : Nat) (hs : s < 32) (x0 x1 x2 : Int) (b : Nat) (q1 : (x0 == -1) = true) (q2 : decide (x2 < x1) = true) (HD : ∀ w1, R w1 ∨ Below W.heap.size W w1 → w1.cell? ⟨g, 5 + s * 2, none⟩ = some (.int .i64 x0) ∧ w1.cell? ⟨g, 5 + s * 2 + 1, none⟩ = some (.int .i64 x1) ∧ w1.cell? ⟨g, o + 2, none⟩ = some (.int .i64 x2)) (HG : Hid (∀ w1, Below W.heap.size W w1 → Calls Tryz.prog 156 #[.pointer (some ⟨g, o, none⟩), .int .i64 0] w1 fun e w' => e = .returned (.bool true) ∧ R w')) (h0 : T0[0]? = some (.pointer (some ⟨g, 0, none⟩))) (h1 : T0[1]? = some (.pointer (some ⟨g, o, none⟩))) (h2 : T0[2]? = some (.int .i64 (s : Int))) (h7 : T0[7]? = some (.pointer (some ⟨b, 0, none⟩))) {Q : Exit → Act → World → Prop}
    (hend : ∀ w : World, R w → Q .normal ⟨putAll T0 [9, 10, 11, 12, 13, 14, 15, 16, 17, 18, 19, 20, 21, 22, 23, 24, 25, 26, 27, 28, 29, 30, 31, 32, 33, 34, 8] [.pointer (some ⟨g, 0, none⟩), .int .i64 (s : Int), .pointer (some ⟨g, 0, none⟩), .pointer (some ⟨g, 5, none⟩), .pointer (some ⟨g, 5 + s * 2, none⟩), .pointer (some ⟨g, 5 + s * 2, none⟩), .int .i64 x0, .bool true, .bool true, .pointer (some ⟨g, 0, none⟩), .int .i64 (s : Int), .pointer (some ⟨g, 0, none⟩), .pointer (some ⟨g, 5, none⟩), .pointer (some ⟨g, 5 + s * 2, none⟩), .pointer (some ⟨g, 5 + s * 2 + 1, none⟩), .int .i64 x1, .pointer (some ⟨g, o, none⟩), .pointer (some ⟨g, o, none⟩), .pointer (some ⟨g, o + 2, none⟩), .int .i64 x2, .bool true, .bool true, .bool true, .pointer (some ⟨g, o, none⟩), .bool true, .bool true, .bool true], []⟩ w) : (Code.region id ops true).wp Tryz.prog Q ⟨T0, []⟩ W := by
  subst hops
  have hos : rgNewC_ops.size = 27 := by kernel_rfl
  have hga : (List.range 27).all (fun i => match rgNewC_ops[i]? with | some o => o.guard == ([none, none, none, none, none, none, none, none, none, some (8, true), some (8, true), some (8, true), some (8, true), some (8, true), some (8, true), some (8, true), some (8, true), some (8, true), some (8, true), some (8, true), some (8, true), none, none, some (22, true), some (22, true), none, none] : List (Option (Nat × Bool))).getD i none | none => false) = true := by kernel_rfl
  have hds : ((pairsS rgNewC_D ([.pointer (some ⟨g, 0, none⟩), .int .i64 (s : Int), .pointer (some ⟨g, 0, none⟩), .pointer (some ⟨g, 5, none⟩), .pointer (some ⟨g, 5 + s * 2, none⟩), .pointer (some ⟨g, 5 + s * 2, none⟩), .int .i64 x0, .bool true, .bool true, .pointer (some ⟨g, 0, none⟩), .int .i64 (s : Int), .pointer (some ⟨g, 0, none⟩), .pointer (some ⟨g, 5, none⟩), .pointer (some ⟨g, 5 + s * 2, none⟩), .pointer (some ⟨g, 5 + s * 2 + 1, none⟩), .int .i64 x1, .pointer (some ⟨g, o, none⟩), .pointer (some ⟨g, o, none⟩), .pointer (some ⟨g, o + 2, none⟩), .int .i64 x2, .bool true, .bool true, .bool true, .pointer (some ⟨g, o, none⟩), .bool true, .bool true, .bool true] : List Value)).map (·.1)) = [9, 10, 11, 12, 13, 14, 15, 16, 17, 18, 19, 20, 21, 22, 23, 24, 25, 26, 27, 28, 29, 30, 31, 32, 33, 34, 8] := rfl
  refine wp_region_valsG ([.pointer (some ⟨g, 0, none⟩), .int .i64 (s : Int), .pointer (some ⟨g, 0, none⟩), .pointer (some ⟨g, 5, none⟩), .pointer (some ⟨g, 5 + s * 2, none⟩), .pointer (some ⟨g, 5 + s * 2, none⟩), .int .i64 x0, .bool true, .bool true, .pointer (some ⟨g, 0, none⟩), .int .i64 (s : Int), .pointer (some ⟨g, 0, none⟩), .pointer (some ⟨g, 5, none⟩), .pointer (some ⟨g, 5 + s * 2, none⟩), .pointer (some ⟨g, 5 + s * 2 + 1, none⟩), .int .i64 x1, .pointer (some ⟨g, o, none⟩), .pointer (some ⟨g, o, none⟩), .pointer (some ⟨g, o + 2, none⟩), .int .i64 x2, .bool true, .bool true, .bool true, .pointer (some ⟨g, o, none⟩), .bool true, .bool true, .bool true] : List Value) [true, true, true, true, true, true, true, true, true, true, true, true, true, true, true, true, true, true, true, true, true, true, true, true, true, true, true] rgNewC_D (fun don w => (don 24 = true → R w) ∧ (don 24 = false → Below W.heap.size W w)) W T0 (by rw [hds]; decide) (fun x hx => ?_) (by kernel_rfl) (by kernel_rfl) (fun i o j want ho hg => ?_) (fun i hi hon => ?_) (fun i hi hon don w hM => ?_) ?_ ?_ ?_
  · rw [hds] at hx
    have hall : (([9, 10, 11, 12, 13, 14, 15, 16, 17, 18, 19, 20, 21, 22, 23, 24, 25, 26, 27, 28, 29, 30, 31, 32, 33, 34, 8] : List Nat).all fun d => decide (d < 35)) = true := by decide
    have := List.all_eq_true.1 hall x hx
    simp only [decide_eq_true_eq] at this
    omega
  · have hi : i < 27 := by rw [← hos]; exact (Array.getElem?_eq_some_iff.1 ho).1
    have h1 := List.all_eq_true.1 hga i (by simpa using hi)
    rw [ho] at h1
    simp only [hg, beq_iff_eq] at h1
    match i, hi with
    | 0, _ => cases h1
    | 1, _ => cases h1
    | 2, _ => cases h1
    | 3, _ => cases h1
    | 4, _ => cases h1
    | 5, _ => cases h1
    | 6, _ => cases h1
    | 7, _ => cases h1
    | 8, _ => cases h1
    | 9, _ => obtain ⟨rfl, rfl⟩ := Prod.mk.inj (Option.some.inj h1); rfl
    | 10, _ => obtain ⟨rfl, rfl⟩ := Prod.mk.inj (Option.some.inj h1); rfl
    | 11, _ => obtain ⟨rfl, rfl⟩ := Prod.mk.inj (Option.some.inj h1); rfl
    | 12, _ => obtain ⟨rfl, rfl⟩ := Prod.mk.inj (Option.some.inj h1); rfl
    | 13, _ => obtain ⟨rfl, rfl⟩ := Prod.mk.inj (Option.some.inj h1); rfl
    | 14, _ => obtain ⟨rfl, rfl⟩ := Prod.mk.inj (Option.some.inj h1); rfl
    | 15, _ => obtain ⟨rfl, rfl⟩ := Prod.mk.inj (Option.some.inj h1); rfl
    | 16, _ => obtain ⟨rfl, rfl⟩ := Prod.mk.inj (Option.some.inj h1); rfl
    | 17, _ => obtain ⟨rfl, rfl⟩ := Prod.mk.inj (Option.some.inj h1); rfl
    | 18, _ => obtain ⟨rfl, rfl⟩ := Prod.mk.inj (Option.some.inj h1); rfl
    | 19, _ => obtain ⟨rfl, rfl⟩ := Prod.mk.inj (Option.some.inj h1); rfl
    | 20, _ => obtain ⟨rfl, rfl⟩ := Prod.mk.inj (Option.some.inj h1); rfl
    | 21, _ => cases h1
    | 22, _ => cases h1
    | 23, _ => obtain ⟨rfl, rfl⟩ := Prod.mk.inj (Option.some.inj h1); rfl
    | 24, _ => obtain ⟨rfl, rfl⟩ := Prod.mk.inj (Option.some.inj h1); rfl
    | 25, _ => cases h1
    | 26, _ => cases h1
    | i + 27, h => exact absurd (show i + 27 < 27 from h) (by omega)
  · match i, hi with
    | 0, _ => cases hon
    | 1, _ => cases hon
    | 2, _ => cases hon
    | 3, _ => cases hon
    | 4, _ => cases hon
    | 5, _ => cases hon
    | 6, _ => cases hon
    | 7, _ => cases hon
    | 8, _ => cases hon
    | 9, _ => cases hon
    | 10, _ => cases hon
    | 11, _ => cases hon
    | 12, _ => cases hon
    | 13, _ => cases hon
    | 14, _ => cases hon
    | 15, _ => cases hon
    | 16, _ => cases hon
    | 17, _ => cases hon
    | 18, _ => cases hon
    | 19, _ => cases hon
    | 20, _ => cases hon
    | 21, _ => cases hon
    | 22, _ => cases hon
    | 23, _ => cases hon
    | 24, _ => cases hon
    | 25, _ => cases hon
    | 26, _ => cases hon
    | i + 27, h => exact absurd (show i + 27 < 27 from h) (by omega)
  · match i, hi with
    | 0, _ => cases hon
    | 1, _ => cases hon
    | 2, _ => cases hon
    | 3, _ => cases hon
    | 4, _ => cases hon
    | 5, _ => cases hon
    | 6, _ => cases hon
    | 7, _ => cases hon
    | 8, _ => cases hon
    | 9, _ => cases hon
    | 10, _ => cases hon
    | 11, _ => cases hon
    | 12, _ => cases hon
    | 13, _ => cases hon
    | 14, _ => cases hon
    | 15, _ => cases hon
    | 16, _ => cases hon
    | 17, _ => cases hon
    | 18, _ => cases hon
    | 19, _ => cases hon
    | 20, _ => cases hon
    | 21, _ => cases hon
    | 22, _ => cases hon
    | 23, _ => cases hon
    | 24, _ => cases hon
    | 25, _ => cases hon
    | 26, _ => cases hon
    | i + 27, h => exact absurd (show i + 27 < 27 from h) (by omega)
  · exact ⟨fun h => (by cases h), fun _ => (Below.refl _ _).drew⟩
  · intro i oo ho hi hon don a w hT hU hdi hM K hK
    rw [hds] at hT
    have hT0 : ∀ t v, t ∉ ([9, 10, 11, 12, 13, 14, 15, 16, 17, 18, 19, 20, 21, 22, 23, 24, 25, 26, 27, 28, 29, 30, 31, 32, 33, 34, 8] : List Nat) → T0[t]? = some v → a.tmps[t]?.getD undef = v := fun t v ht hv => by rw [hT t ht, hv]; rfl
    match i, hi with
    | 0, _ => exact v_moveS 0 (opAtW ho (by kernel_rfl)) (hT0 0 _ (by decide) h0) (hK w hM)
    | 1, _ => exact v_moveS 2 (opAtW ho (by kernel_rfl)) (hT0 2 _ (by decide) h2) (hK w hM)
    | 2, _ => exact u_nilS 9 (opAtW ho (by kernel_rfl)) ((hU 0 (by kernel_rfl)).2 9 rfl) (hK w hM)
    | 3, _ => exact u_f66_3 11 (opAtW ho (by kernel_rfl)) ((hU 2 (by kernel_rfl)).2 11 rfl) (hK w hM)
    | 4, _ => exact u_i59 12 10 (k := s) hs (opAtW ho (by kernel_rfl)) ((hU 3 (by kernel_rfl)).2 12 rfl) ((hU 1 (by kernel_rfl)).2 10 rfl) (hK w hM)
    | 5, _ => exact u_f58_0 13 (opAtW ho (by kernel_rfl)) ((hU 4 (by kernel_rfl)).2 13 rfl) (hK w hM)
    | 6, _ => exact u_loadiS 14 (opAtW ho (by kernel_rfl)) ((hU 5 (by kernel_rfl)).2 14 rfl) ((HD w (orM hM)).1) (hK w hM)
    | 7, _ => exact u_eql_ic 15 (opAtW ho (by kernel_rfl)) ((hU 6 (by kernel_rfl)).2 15 rfl) (q1) (hK w hM)
    | 8, _ => exact v_moveS 16 (opAtW ho (by kernel_rfl)) ((hU 7 (by kernel_rfl)).2 16 rfl) (hK w hM)
    | 9, _ => exact v_moveS 0 (opAtW ho (by kernel_rfl)) (hT0 0 _ (by decide) h0) (hK w hM)
    | 10, _ => exact v_moveS 2 (opAtW ho (by kernel_rfl)) (hT0 2 _ (by decide) h2) (hK w hM)
    | 11, _ => exact u_nilS 18 (opAtW ho (by kernel_rfl)) ((hU 9 (by kernel_rfl)).2 18 rfl) (hK w hM)
    | 12, _ => exact u_f66_3 20 (opAtW ho (by kernel_rfl)) ((hU 11 (by kernel_rfl)).2 20 rfl) (hK w hM)
    | 13, _ => exact u_i59 21 19 (k := s) hs (opAtW ho (by kernel_rfl)) ((hU 12 (by kernel_rfl)).2 21 rfl) ((hU 10 (by kernel_rfl)).2 19 rfl) (hK w hM)
    | 14, _ => exact u_f58_1 22 (opAtW ho (by kernel_rfl)) ((hU 13 (by kernel_rfl)).2 22 rfl) (hK w hM)
    | 15, _ => exact u_loadiS 23 (opAtW ho (by kernel_rfl)) ((hU 14 (by kernel_rfl)).2 23 rfl) ((HD w (orM hM)).2.1) (hK w hM)
    | 16, _ => exact v_moveS 1 (opAtW ho (by kernel_rfl)) (hT0 1 _ (by decide) h1) (hK w hM)
    | 17, _ => exact u_nilS 25 (opAtW ho (by kernel_rfl)) ((hU 16 (by kernel_rfl)).2 25 rfl) (hK w hM)
    | 18, _ => exact u_f63_2 26 (opAtW ho (by kernel_rfl)) ((hU 17 (by kernel_rfl)).2 26 rfl) (hK w hM)
    | 19, _ => exact u_loadiS 27 (opAtW ho (by kernel_rfl)) ((hU 18 (by kernel_rfl)).2 27 rfl) ((HD w (orM hM)).2.2) (hK w hM)
    | 20, _ => exact u_gtr_i 24 28 (opAtW ho (by kernel_rfl)) ((hU 15 (by kernel_rfl)).2 24 rfl) ((hU 19 (by kernel_rfl)).2 28 rfl) (q2) (hK w hM)
    | 21, _ => exact v_andT 17 29 (opAtW ho (by kernel_rfl)) ((hU 8 (by kernel_rfl)).2 17 rfl) ((hU 20 (by kernel_rfl)).2 29 rfl) (hK w hM)
    | 22, _ => exact v_moveS 30 (opAtW ho (by kernel_rfl)) ((hU 21 (by kernel_rfl)).2 30 rfl) (hK w hM)
    | 23, _ => exact v_moveS 1 (opAtW ho (by kernel_rfl)) (hT0 1 _ (by decide) h1) (hK w hM)
    | 24, _ =>
      have x32 : a.tmps[32]?.getD undef = .pointer (some ⟨g, o, none⟩) := ((hU 23 (by kernel_rfl)).2 32 rfl)
      obtain ⟨dst, op, type, pos, after, guard⟩ := oo
      have ho' : op = .call { callee := .value (.func 156), args := #[.tmp 32, .const (.int .i64 0)], argTypes := #[190, 3] } := opAtW ho (by kernel_rfl)
      subst ho'
      clear ho hT hU hT0
      have hfun := Tryz.func156
      go_simp
      refine (HG.out w (hM.2 hdi)).mono ?_
      rintro r w' ⟨rfl, hR⟩
      exact hK w' ⟨fun _ => hR, fun h => absurd h (by simp)⟩
    | 25, _ => exact v_andT 31 33 (opAtW ho (by kernel_rfl)) ((hU 22 (by kernel_rfl)).2 31 rfl) ((hU 24 (by kernel_rfl)).2 33 rfl) (hK w hM)
    | 26, _ => exact v_assignS 34 (opAtW ho (by kernel_rfl)) ((hU 25 (by kernel_rfl)).2 34 rfl) (hK w hM)
    | i + 27, h => exact absurd (show i + 27 < 27 from h) (by omega)
  · intro w hM
    exact hend w (hM.1 (by decide))
noncomputable def rgBusyA_ops : Array Oper := opsW Tryz.f144 1
def rgBusyA_D : List (Option Nat) := [some 9, some 10, some 11, some 12, some 13, some 14, some 15, some 16, some 17, some 18, some 19, some 20, some 21, some 22, some 23, some 24, some 25, some 26]
set_option maxRecDepth 100000 in
set_option maxHeartbeats 4000000 in
theorem rgBusyA {id : Nat} {ops : Array Oper} (hops : ops = rgBusyA_ops) (T0 : Array Value) (hsz : 27 ≤ T0.size) (W : World) (g s o : Nat) (hs : s < 32) (x0 x1 x2 : Int) (b : Nat) (q1 : decide ((s : Int) ≤ x2) = true) (HD : ∀ w1, Below W.heap.size W w1 → w1.cell? ⟨g, 5 + s * 2, none⟩ = some (.int .i64 x0) ∧ w1.cell? ⟨g, 5 + s * 2 + 1, none⟩ = some (.int .i64 x1) ∧ w1.cell? ⟨g, o + 70, none⟩ = some (.int .i64 x2)) (h0 : T0[0]? = some (.pointer (some ⟨g, 0, none⟩))) (h1 : T0[1]? = some (.pointer (some ⟨g, o, none⟩))) (h2 : T0[2]? = some (.int .i64 (s : Int))) (h7 : T0[7]? = some (.pointer (some ⟨b, 0, none⟩))) {Q : Exit → Act → World → Prop}
    (hend : ∀ w : World, Below W.heap.size W w → Q .normal ⟨putAll T0 [9, 10, 11, 12, 13, 14, 15, 16, 17, 18, 19, 20, 21, 22, 23, 24, 25, 26] [.int .i64 (s : Int), .pointer (some ⟨g, o, none⟩), .pointer (some ⟨g, o, none⟩), .pointer (some ⟨g, o + 70, none⟩), .int .i64 x2, .bool true, .bool true, undef, undef, undef, undef, undef, undef, undef, undef, undef, undef, .bool true], []⟩ w) : (Code.region id ops true).wp Tryz.prog Q ⟨T0, []⟩ W := by
  subst hops
  have hos : rgBusyA_ops.size = 18 := by kernel_rfl
  have hga : (List.range 18).all (fun i => match rgBusyA_ops[i]? with | some o => o.guard == ([none, none, none, none, none, none, none, some (6, false), some (6, false), some (6, false), some (6, false), some (6, false), some (6, false), some (6, false), some (6, false), some (6, false), some (6, false), none] : List (Option (Nat × Bool))).getD i none | none => false) = true := by kernel_rfl
  have hds : ((pairsS rgBusyA_D ([.int .i64 (s : Int), .pointer (some ⟨g, o, none⟩), .pointer (some ⟨g, o, none⟩), .pointer (some ⟨g, o + 70, none⟩), .int .i64 x2, .bool true, .bool true, undef, undef, undef, undef, undef, undef, undef, undef, undef, undef, .bool true] : List Value)).map (·.1)) = [9, 10, 11, 12, 13, 14, 15, 16, 17, 18, 19, 20, 21, 22, 23, 24, 25, 26] := rfl
  refine wp_region_valsG ([.int .i64 (s : Int), .pointer (some ⟨g, o, none⟩), .pointer (some ⟨g, o, none⟩), .pointer (some ⟨g, o + 70, none⟩), .int .i64 x2, .bool true, .bool true, undef, undef, undef, undef, undef, undef, undef, undef, undef, undef, .bool true] : List Value) [true, true, true, true, true, true, true, false, false, false, false, false, false, false, false, false, false, true] rgBusyA_D (fun _ w => Below W.heap.size W w) W T0 (by rw [hds]; decide) (fun x hx => ?_) (by kernel_rfl) (by kernel_rfl) (fun i o j want ho hg => ?_) (fun i hi hon => ?_) (fun i hi hon don w hM => ?_) ?_ ?_ ?_
  · rw [hds] at hx
    have hall : (([9, 10, 11, 12, 13, 14, 15, 16, 17, 18, 19, 20, 21, 22, 23, 24, 25, 26] : List Nat).all fun d => decide (d < 27)) = true := by decide
    have := List.all_eq_true.1 hall x hx
    simp only [decide_eq_true_eq] at this
    omega
  · have hi : i < 18 := by rw [← hos]; exact (Array.getElem?_eq_some_iff.1 ho).1
    have h1 := List.all_eq_true.1 hga i (by simpa using hi)
    rw [ho] at h1
    simp only [hg, beq_iff_eq] at h1
    match i, hi with
    | 0, _ => cases h1
    | 1, _ => cases h1
    | 2, _ => cases h1
    | 3, _ => cases h1
    | 4, _ => cases h1
    | 5, _ => cases h1
    | 6, _ => cases h1
    | 7, _ => obtain ⟨rfl, rfl⟩ := Prod.mk.inj (Option.some.inj h1); rfl
    | 8, _ => obtain ⟨rfl, rfl⟩ := Prod.mk.inj (Option.some.inj h1); rfl
    | 9, _ => obtain ⟨rfl, rfl⟩ := Prod.mk.inj (Option.some.inj h1); rfl
    | 10, _ => obtain ⟨rfl, rfl⟩ := Prod.mk.inj (Option.some.inj h1); rfl
    | 11, _ => obtain ⟨rfl, rfl⟩ := Prod.mk.inj (Option.some.inj h1); rfl
    | 12, _ => obtain ⟨rfl, rfl⟩ := Prod.mk.inj (Option.some.inj h1); rfl
    | 13, _ => obtain ⟨rfl, rfl⟩ := Prod.mk.inj (Option.some.inj h1); rfl
    | 14, _ => obtain ⟨rfl, rfl⟩ := Prod.mk.inj (Option.some.inj h1); rfl
    | 15, _ => obtain ⟨rfl, rfl⟩ := Prod.mk.inj (Option.some.inj h1); rfl
    | 16, _ => obtain ⟨rfl, rfl⟩ := Prod.mk.inj (Option.some.inj h1); rfl
    | 17, _ => cases h1
    | i + 18, h => exact absurd (show i + 18 < 18 from h) (by omega)
  · match i, hi with
    | 0, _ => cases hon
    | 1, _ => cases hon
    | 2, _ => cases hon
    | 3, _ => cases hon
    | 4, _ => cases hon
    | 5, _ => cases hon
    | 6, _ => cases hon
    | 7, _ => rfl
    | 8, _ => rfl
    | 9, _ => rfl
    | 10, _ => rfl
    | 11, _ => rfl
    | 12, _ => rfl
    | 13, _ => rfl
    | 14, _ => rfl
    | 15, _ => rfl
    | 16, _ => rfl
    | 17, _ => cases hon
    | i + 18, h => exact absurd (show i + 18 < 18 from h) (by omega)
  · match i, hi with
    | 0, _ => cases hon
    | 1, _ => cases hon
    | 2, _ => cases hon
    | 3, _ => cases hon
    | 4, _ => cases hon
    | 5, _ => cases hon
    | 6, _ => cases hon
    | 7, _ => exact hM
    | 8, _ => exact hM
    | 9, _ => exact hM
    | 10, _ => exact hM
    | 11, _ => exact hM
    | 12, _ => exact hM
    | 13, _ => exact hM
    | 14, _ => exact hM
    | 15, _ => exact hM
    | 16, _ => exact hM
    | 17, _ => cases hon
    | i + 18, h => exact absurd (show i + 18 < 18 from h) (by omega)
  · exact (Below.refl _ _).drew
  · intro i oo ho hi hon don a w hT hU hdi hM K hK
    rw [hds] at hT
    have hT0 : ∀ t v, t ∉ ([9, 10, 11, 12, 13, 14, 15, 16, 17, 18, 19, 20, 21, 22, 23, 24, 25, 26] : List Nat) → T0[t]? = some v → a.tmps[t]?.getD undef = v := fun t v ht hv => by rw [hT t ht, hv]; rfl
    match i, hi with
    | 0, _ => exact v_moveS 2 (opAtW ho (by kernel_rfl)) (hT0 2 _ (by decide) h2) (hK w hM)
    | 1, _ => exact v_moveS 1 (opAtW ho (by kernel_rfl)) (hT0 1 _ (by decide) h1) (hK w hM)
    | 2, _ => exact u_nilS 10 (opAtW ho (by kernel_rfl)) ((hU 1 (by kernel_rfl)).2 10 rfl) (hK w hM)
    | 3, _ => exact u_f63_8 11 (opAtW ho (by kernel_rfl)) ((hU 2 (by kernel_rfl)).2 11 rfl) (hK w hM)
    | 4, _ => exact u_loadiS 12 (opAtW ho (by kernel_rfl)) ((hU 3 (by kernel_rfl)).2 12 rfl) ((HD w hM).2.2) (hK w hM)
    | 5, _ => exact u_leq_i 9 13 (opAtW ho (by kernel_rfl)) ((hU 0 (by kernel_rfl)).2 9 rfl) ((hU 4 (by kernel_rfl)).2 13 rfl) (q1) (hK w hM)
    | 6, _ => exact v_moveS 14 (opAtW ho (by kernel_rfl)) ((hU 5 (by kernel_rfl)).2 14 rfl) (hK w hM)
    | 7, _ => exact absurd hon (by decide)
    | 8, _ => exact absurd hon (by decide)
    | 9, _ => exact absurd hon (by decide)
    | 10, _ => exact absurd hon (by decide)
    | 11, _ => exact absurd hon (by decide)
    | 12, _ => exact absurd hon (by decide)
    | 13, _ => exact absurd hon (by decide)
    | 14, _ => exact absurd hon (by decide)
    | 15, _ => exact absurd hon (by decide)
    | 16, _ => exact absurd hon (by decide)
    | 17, _ => exact v_orT 15 25 (opAtW ho (by kernel_rfl)) ((hU 6 (by kernel_rfl)).2 15 rfl) (hK w hM)
    | i + 18, h => exact absurd (show i + 18 < 18 from h) (by omega)
  · intro w hM
    exact hend w (hM)
noncomputable def rgBusyB_ops : Array Oper := opsW Tryz.f144 1
def rgBusyB_D : List (Option Nat) := [some 9, some 10, some 11, some 12, some 13, some 14, some 15, some 16, some 17, some 18, some 19, some 20, some 21, some 22, some 23, some 24, some 25, some 26]
set_option maxRecDepth 100000 in
set_option maxHeartbeats 4000000 in
theorem rgBusyB {id : Nat} {ops : Array Oper} (hops : ops = rgBusyB_ops) (T0 : Array Value) (hsz : 27 ≤ T0.size) (W : World) (g s o : Nat) (hs : s < 32) (x0 x1 x2 who : Int) (b : Nat) (q1 : decide ((s : Int) ≤ x2) = false) (HD : ∀ w1, Below W.heap.size W w1 → w1.cell? ⟨g, 5 + s * 2, none⟩ = some (.int .i64 x0) ∧ w1.cell? ⟨g, 5 + s * 2 + 1, none⟩ = some (.int .i64 x1) ∧ w1.cell? ⟨g, o + 70, none⟩ = some (.int .i64 x2)) (HE : ∀ w1, Below W.heap.size W w1 → w1.cell? ⟨b, 1, none⟩ = some (.int .i64 who)) (HA : Hid (∀ w1, Calls Tryz.prog 157 #[.agg #[.int .i64 x0, .int .i64 x1], .int .i64 who] w1 fun e w' => e = .returned (.bool false) ∧ Below w1.heap.size w1 w')) (h0 : T0[0]? = some (.pointer (some ⟨g, 0, none⟩))) (h1 : T0[1]? = some (.pointer (some ⟨g, o, none⟩))) (h2 : T0[2]? = some (.int .i64 (s : Int))) (h7 : T0[7]? = some (.pointer (some ⟨b, 0, none⟩))) {Q : Exit → Act → World → Prop}
    (hend : ∀ w : World, Below W.heap.size W w → Q .normal ⟨putAll T0 [9, 10, 11, 12, 13, 14, 15, 16, 17, 18, 19, 20, 21, 22, 23, 24, 25, 26] [.int .i64 (s : Int), .pointer (some ⟨g, o, none⟩), .pointer (some ⟨g, o, none⟩), .pointer (some ⟨g, o + 70, none⟩), .int .i64 x2, .bool false, .bool false, .pointer (some ⟨g, 0, none⟩), .int .i64 (s : Int), .pointer (some ⟨g, 0, none⟩), .pointer (some ⟨g, 5, none⟩), .pointer (some ⟨g, 5 + s * 2, none⟩), .agg #[.int .i64 x0, .int .i64 x1], .pointer (some ⟨b, 1, none⟩), .int .i64 who, .bool false, .bool true, .bool true], []⟩ w) : (Code.region id ops true).wp Tryz.prog Q ⟨T0, []⟩ W := by
  subst hops
  have hos : rgBusyB_ops.size = 18 := by kernel_rfl
  have hga : (List.range 18).all (fun i => match rgBusyB_ops[i]? with | some o => o.guard == ([none, none, none, none, none, none, none, some (6, false), some (6, false), some (6, false), some (6, false), some (6, false), some (6, false), some (6, false), some (6, false), some (6, false), some (6, false), none] : List (Option (Nat × Bool))).getD i none | none => false) = true := by kernel_rfl
  have hds : ((pairsS rgBusyB_D ([.int .i64 (s : Int), .pointer (some ⟨g, o, none⟩), .pointer (some ⟨g, o, none⟩), .pointer (some ⟨g, o + 70, none⟩), .int .i64 x2, .bool false, .bool false, .pointer (some ⟨g, 0, none⟩), .int .i64 (s : Int), .pointer (some ⟨g, 0, none⟩), .pointer (some ⟨g, 5, none⟩), .pointer (some ⟨g, 5 + s * 2, none⟩), .agg #[.int .i64 x0, .int .i64 x1], .pointer (some ⟨b, 1, none⟩), .int .i64 who, .bool false, .bool true, .bool true] : List Value)).map (·.1)) = [9, 10, 11, 12, 13, 14, 15, 16, 17, 18, 19, 20, 21, 22, 23, 24, 25, 26] := rfl
  refine wp_region_valsG ([.int .i64 (s : Int), .pointer (some ⟨g, o, none⟩), .pointer (some ⟨g, o, none⟩), .pointer (some ⟨g, o + 70, none⟩), .int .i64 x2, .bool false, .bool false, .pointer (some ⟨g, 0, none⟩), .int .i64 (s : Int), .pointer (some ⟨g, 0, none⟩), .pointer (some ⟨g, 5, none⟩), .pointer (some ⟨g, 5 + s * 2, none⟩), .agg #[.int .i64 x0, .int .i64 x1], .pointer (some ⟨b, 1, none⟩), .int .i64 who, .bool false, .bool true, .bool true] : List Value) [true, true, true, true, true, true, true, true, true, true, true, true, true, true, true, true, true, true] rgBusyB_D (fun _ w => Below W.heap.size W w) W T0 (by rw [hds]; decide) (fun x hx => ?_) (by kernel_rfl) (by kernel_rfl) (fun i o j want ho hg => ?_) (fun i hi hon => ?_) (fun i hi hon don w hM => ?_) ?_ ?_ ?_
  · rw [hds] at hx
    have hall : (([9, 10, 11, 12, 13, 14, 15, 16, 17, 18, 19, 20, 21, 22, 23, 24, 25, 26] : List Nat).all fun d => decide (d < 27)) = true := by decide
    have := List.all_eq_true.1 hall x hx
    simp only [decide_eq_true_eq] at this
    omega
  · have hi : i < 18 := by rw [← hos]; exact (Array.getElem?_eq_some_iff.1 ho).1
    have h1 := List.all_eq_true.1 hga i (by simpa using hi)
    rw [ho] at h1
    simp only [hg, beq_iff_eq] at h1
    match i, hi with
    | 0, _ => cases h1
    | 1, _ => cases h1
    | 2, _ => cases h1
    | 3, _ => cases h1
    | 4, _ => cases h1
    | 5, _ => cases h1
    | 6, _ => cases h1
    | 7, _ => obtain ⟨rfl, rfl⟩ := Prod.mk.inj (Option.some.inj h1); rfl
    | 8, _ => obtain ⟨rfl, rfl⟩ := Prod.mk.inj (Option.some.inj h1); rfl
    | 9, _ => obtain ⟨rfl, rfl⟩ := Prod.mk.inj (Option.some.inj h1); rfl
    | 10, _ => obtain ⟨rfl, rfl⟩ := Prod.mk.inj (Option.some.inj h1); rfl
    | 11, _ => obtain ⟨rfl, rfl⟩ := Prod.mk.inj (Option.some.inj h1); rfl
    | 12, _ => obtain ⟨rfl, rfl⟩ := Prod.mk.inj (Option.some.inj h1); rfl
    | 13, _ => obtain ⟨rfl, rfl⟩ := Prod.mk.inj (Option.some.inj h1); rfl
    | 14, _ => obtain ⟨rfl, rfl⟩ := Prod.mk.inj (Option.some.inj h1); rfl
    | 15, _ => obtain ⟨rfl, rfl⟩ := Prod.mk.inj (Option.some.inj h1); rfl
    | 16, _ => obtain ⟨rfl, rfl⟩ := Prod.mk.inj (Option.some.inj h1); rfl
    | 17, _ => cases h1
    | i + 18, h => exact absurd (show i + 18 < 18 from h) (by omega)
  · match i, hi with
    | 0, _ => cases hon
    | 1, _ => cases hon
    | 2, _ => cases hon
    | 3, _ => cases hon
    | 4, _ => cases hon
    | 5, _ => cases hon
    | 6, _ => cases hon
    | 7, _ => cases hon
    | 8, _ => cases hon
    | 9, _ => cases hon
    | 10, _ => cases hon
    | 11, _ => cases hon
    | 12, _ => cases hon
    | 13, _ => cases hon
    | 14, _ => cases hon
    | 15, _ => cases hon
    | 16, _ => cases hon
    | 17, _ => cases hon
    | i + 18, h => exact absurd (show i + 18 < 18 from h) (by omega)
  · match i, hi with
    | 0, _ => cases hon
    | 1, _ => cases hon
    | 2, _ => cases hon
    | 3, _ => cases hon
    | 4, _ => cases hon
    | 5, _ => cases hon
    | 6, _ => cases hon
    | 7, _ => cases hon
    | 8, _ => cases hon
    | 9, _ => cases hon
    | 10, _ => cases hon
    | 11, _ => cases hon
    | 12, _ => cases hon
    | 13, _ => cases hon
    | 14, _ => cases hon
    | 15, _ => cases hon
    | 16, _ => cases hon
    | 17, _ => cases hon
    | i + 18, h => exact absurd (show i + 18 < 18 from h) (by omega)
  · exact (Below.refl _ _).drew
  · intro i oo ho hi hon don a w hT hU hdi hM K hK
    rw [hds] at hT
    have hT0 : ∀ t v, t ∉ ([9, 10, 11, 12, 13, 14, 15, 16, 17, 18, 19, 20, 21, 22, 23, 24, 25, 26] : List Nat) → T0[t]? = some v → a.tmps[t]?.getD undef = v := fun t v ht hv => by rw [hT t ht, hv]; rfl
    match i, hi with
    | 0, _ => exact v_moveS 2 (opAtW ho (by kernel_rfl)) (hT0 2 _ (by decide) h2) (hK w hM)
    | 1, _ => exact v_moveS 1 (opAtW ho (by kernel_rfl)) (hT0 1 _ (by decide) h1) (hK w hM)
    | 2, _ => exact u_nilS 10 (opAtW ho (by kernel_rfl)) ((hU 1 (by kernel_rfl)).2 10 rfl) (hK w hM)
    | 3, _ => exact u_f63_8 11 (opAtW ho (by kernel_rfl)) ((hU 2 (by kernel_rfl)).2 11 rfl) (hK w hM)
    | 4, _ => exact u_loadiS 12 (opAtW ho (by kernel_rfl)) ((hU 3 (by kernel_rfl)).2 12 rfl) ((HD w hM).2.2) (hK w hM)
    | 5, _ => exact u_leq_i 9 13 (opAtW ho (by kernel_rfl)) ((hU 0 (by kernel_rfl)).2 9 rfl) ((hU 4 (by kernel_rfl)).2 13 rfl) (q1) (hK w hM)
    | 6, _ => exact v_moveS 14 (opAtW ho (by kernel_rfl)) ((hU 5 (by kernel_rfl)).2 14 rfl) (hK w hM)
    | 7, _ => exact v_moveS 0 (opAtW ho (by kernel_rfl)) (hT0 0 _ (by decide) h0) (hK w hM)
    | 8, _ => exact v_moveS 2 (opAtW ho (by kernel_rfl)) (hT0 2 _ (by decide) h2) (hK w hM)
    | 9, _ => exact u_nilS 16 (opAtW ho (by kernel_rfl)) ((hU 7 (by kernel_rfl)).2 16 rfl) (hK w hM)
    | 10, _ => exact u_f66_3 18 (opAtW ho (by kernel_rfl)) ((hU 9 (by kernel_rfl)).2 18 rfl) (hK w hM)
    | 11, _ => exact u_i59 19 17 (k := s) hs (opAtW ho (by kernel_rfl)) ((hU 10 (by kernel_rfl)).2 19 rfl) ((hU 8 (by kernel_rfl)).2 17 rfl) (hK w hM)
    | 12, _ => exact u_load58 20 (opAtW ho (by kernel_rfl)) ((hU 11 (by kernel_rfl)).2 20 rfl) (⟨(HD w hM).1, (HD w hM).2.1⟩) (hK w hM)
    | 13, _ => exact u_f27_1 7 (opAtW ho (by kernel_rfl)) (hT0 7 _ (by decide) h7) (hK w hM)
    | 14, _ => exact u_loadiS 22 (opAtW ho (by kernel_rfl)) ((hU 13 (by kernel_rfl)).2 22 rfl) (HE w hM) (hK w hM)
    | 15, _ =>
      have x21 : a.tmps[21]?.getD undef = .agg #[.int .i64 x0, .int .i64 x1] := ((hU 12 (by kernel_rfl)).2 21 rfl)
      have x23 : a.tmps[23]?.getD undef = .int .i64 who := ((hU 14 (by kernel_rfl)).2 23 rfl)
      obtain ⟨dst, op, type, pos, after, guard⟩ := oo
      have ho' : op = .call { callee := .value (.func 157), args := #[.tmp 21, .tmp 23], argTypes := #[153, 3] } := opAtW ho (by kernel_rfl)
      subst ho'
      clear ho hT hU hT0
      have hfun := Tryz.func157
      go_simp
      refine (HA.out w).mono ?_
      rintro r w' ⟨rfl, hb⟩
      exact hK w' (hM.trans (hb.mono hM.size))
    | 16, _ => exact u_notFS 24 (opAtW ho (by kernel_rfl)) ((hU 15 (by kernel_rfl)).2 24 rfl) (hK w hM)
    | 17, _ => exact v_orF 15 25 (opAtW ho (by kernel_rfl)) ((hU 6 (by kernel_rfl)).2 15 rfl) ((hU 16 (by kernel_rfl)).2 25 rfl) (hK w hM)
    | i + 18, h => exact absurd (show i + 18 < 18 from h) (by omega)
  · intro w hM
    exact hend w (hM)
noncomputable def rgBusyC_ops : Array Oper := opsW Tryz.f144 1
def rgBusyC_D : List (Option Nat) := [some 9, some 10, some 11, some 12, some 13, some 14, some 15, some 16, some 17, some 18, some 19, some 20, some 21, some 22, some 23, some 24, some 25, some 26]
set_option maxRecDepth 100000 in
set_option maxHeartbeats 4000000 in
theorem rgBusyC {id : Nat} {ops : Array Oper} (hops : ops = rgBusyC_ops) (T0 : Array Value) (hsz : 27 ≤ T0.size) (W : World) (g s o : Nat) (hs : s < 32) (x0 x1 x2 who : Int) (b : Nat) (q1 : decide ((s : Int) ≤ x2) = false) (HD : ∀ w1, Below W.heap.size W w1 → w1.cell? ⟨g, 5 + s * 2, none⟩ = some (.int .i64 x0) ∧ w1.cell? ⟨g, 5 + s * 2 + 1, none⟩ = some (.int .i64 x1) ∧ w1.cell? ⟨g, o + 70, none⟩ = some (.int .i64 x2)) (HE : ∀ w1, Below W.heap.size W w1 → w1.cell? ⟨b, 1, none⟩ = some (.int .i64 who)) (HA : Hid (∀ w1, Calls Tryz.prog 157 #[.agg #[.int .i64 x0, .int .i64 x1], .int .i64 who] w1 fun e w' => e = .returned (.bool true) ∧ Below w1.heap.size w1 w')) (h0 : T0[0]? = some (.pointer (some ⟨g, 0, none⟩))) (h1 : T0[1]? = some (.pointer (some ⟨g, o, none⟩))) (h2 : T0[2]? = some (.int .i64 (s : Int))) (h7 : T0[7]? = some (.pointer (some ⟨b, 0, none⟩))) {Q : Exit → Act → World → Prop}
    (hend : ∀ w : World, Below W.heap.size W w → Q .normal ⟨putAll T0 [9, 10, 11, 12, 13, 14, 15, 16, 17, 18, 19, 20, 21, 22, 23, 24, 25, 26] [.int .i64 (s : Int), .pointer (some ⟨g, o, none⟩), .pointer (some ⟨g, o, none⟩), .pointer (some ⟨g, o + 70, none⟩), .int .i64 x2, .bool false, .bool false, .pointer (some ⟨g, 0, none⟩), .int .i64 (s : Int), .pointer (some ⟨g, 0, none⟩), .pointer (some ⟨g, 5, none⟩), .pointer (some ⟨g, 5 + s * 2, none⟩), .agg #[.int .i64 x0, .int .i64 x1], .pointer (some ⟨b, 1, none⟩), .int .i64 who, .bool true, .bool false, .bool false], []⟩ w) : (Code.region id ops true).wp Tryz.prog Q ⟨T0, []⟩ W := by
  subst hops
  have hos : rgBusyC_ops.size = 18 := by kernel_rfl
  have hga : (List.range 18).all (fun i => match rgBusyC_ops[i]? with | some o => o.guard == ([none, none, none, none, none, none, none, some (6, false), some (6, false), some (6, false), some (6, false), some (6, false), some (6, false), some (6, false), some (6, false), some (6, false), some (6, false), none] : List (Option (Nat × Bool))).getD i none | none => false) = true := by kernel_rfl
  have hds : ((pairsS rgBusyC_D ([.int .i64 (s : Int), .pointer (some ⟨g, o, none⟩), .pointer (some ⟨g, o, none⟩), .pointer (some ⟨g, o + 70, none⟩), .int .i64 x2, .bool false, .bool false, .pointer (some ⟨g, 0, none⟩), .int .i64 (s : Int), .pointer (some ⟨g, 0, none⟩), .pointer (some ⟨g, 5, none⟩), .pointer (some ⟨g, 5 + s * 2, none⟩), .agg #[.int .i64 x0, .int .i64 x1], .pointer (some ⟨b, 1, none⟩), .int .i64 who, .bool true, .bool false, .bool false] : List Value)).map (·.1)) = [9, 10, 11, 12, 13, 14, 15, 16, 17, 18, 19, 20, 21, 22, 23, 24, 25, 26] := rfl
  refine wp_region_valsG ([.int .i64 (s : Int), .pointer (some ⟨g, o, none⟩), .pointer (some ⟨g, o, none⟩), .pointer (some ⟨g, o + 70, none⟩), .int .i64 x2, .bool false, .bool false, .pointer (some ⟨g, 0, none⟩), .int .i64 (s : Int), .pointer (some ⟨g, 0, none⟩), .pointer (some ⟨g, 5, none⟩), .pointer (some ⟨g, 5 + s * 2, none⟩), .agg #[.int .i64 x0, .int .i64 x1], .pointer (some ⟨b, 1, none⟩), .int .i64 who, .bool true, .bool false, .bool false] : List Value) [true, true, true, true, true, true, true, true, true, true, true, true, true, true, true, true, true, true] rgBusyC_D (fun _ w => Below W.heap.size W w) W T0 (by rw [hds]; decide) (fun x hx => ?_) (by kernel_rfl) (by kernel_rfl) (fun i o j want ho hg => ?_) (fun i hi hon => ?_) (fun i hi hon don w hM => ?_) ?_ ?_ ?_
  · rw [hds] at hx
    have hall : (([9, 10, 11, 12, 13, 14, 15, 16, 17, 18, 19, 20, 21, 22, 23, 24, 25, 26] : List Nat).all fun d => decide (d < 27)) = true := by decide
    have := List.all_eq_true.1 hall x hx
    simp only [decide_eq_true_eq] at this
    omega
  · have hi : i < 18 := by rw [← hos]; exact (Array.getElem?_eq_some_iff.1 ho).1
    have h1 := List.all_eq_true.1 hga i (by simpa using hi)
    rw [ho] at h1
    simp only [hg, beq_iff_eq] at h1
    match i, hi with
    | 0, _ => cases h1
    | 1, _ => cases h1
    | 2, _ => cases h1
    | 3, _ => cases h1
    | 4, _ => cases h1
    | 5, _ => cases h1
    | 6, _ => cases h1
    | 7, _ => obtain ⟨rfl, rfl⟩ := Prod.mk.inj (Option.some.inj h1); rfl
    | 8, _ => obtain ⟨rfl, rfl⟩ := Prod.mk.inj (Option.some.inj h1); rfl
    | 9, _ => obtain ⟨rfl, rfl⟩ := Prod.mk.inj (Option.some.inj h1); rfl
    | 10, _ => obtain ⟨rfl, rfl⟩ := Prod.mk.inj (Option.some.inj h1); rfl
    | 11, _ => obtain ⟨rfl, rfl⟩ := Prod.mk.inj (Option.some.inj h1); rfl
    | 12, _ => obtain ⟨rfl, rfl⟩ := Prod.mk.inj (Option.some.inj h1); rfl
    | 13, _ => obtain ⟨rfl, rfl⟩ := Prod.mk.inj (Option.some.inj h1); rfl
    | 14, _ => obtain ⟨rfl, rfl⟩ := Prod.mk.inj (Option.some.inj h1); rfl
    | 15, _ => obtain ⟨rfl, rfl⟩ := Prod.mk.inj (Option.some.inj h1); rfl
    | 16, _ => obtain ⟨rfl, rfl⟩ := Prod.mk.inj (Option.some.inj h1); rfl
    | 17, _ => cases h1
    | i + 18, h => exact absurd (show i + 18 < 18 from h) (by omega)
  · match i, hi with
    | 0, _ => cases hon
    | 1, _ => cases hon
    | 2, _ => cases hon
    | 3, _ => cases hon
    | 4, _ => cases hon
    | 5, _ => cases hon
    | 6, _ => cases hon
    | 7, _ => cases hon
    | 8, _ => cases hon
    | 9, _ => cases hon
    | 10, _ => cases hon
    | 11, _ => cases hon
    | 12, _ => cases hon
    | 13, _ => cases hon
    | 14, _ => cases hon
    | 15, _ => cases hon
    | 16, _ => cases hon
    | 17, _ => cases hon
    | i + 18, h => exact absurd (show i + 18 < 18 from h) (by omega)
  · match i, hi with
    | 0, _ => cases hon
    | 1, _ => cases hon
    | 2, _ => cases hon
    | 3, _ => cases hon
    | 4, _ => cases hon
    | 5, _ => cases hon
    | 6, _ => cases hon
    | 7, _ => cases hon
    | 8, _ => cases hon
    | 9, _ => cases hon
    | 10, _ => cases hon
    | 11, _ => cases hon
    | 12, _ => cases hon
    | 13, _ => cases hon
    | 14, _ => cases hon
    | 15, _ => cases hon
    | 16, _ => cases hon
    | 17, _ => cases hon
    | i + 18, h => exact absurd (show i + 18 < 18 from h) (by omega)
  · exact (Below.refl _ _).drew
  · intro i oo ho hi hon don a w hT hU hdi hM K hK
    rw [hds] at hT
    have hT0 : ∀ t v, t ∉ ([9, 10, 11, 12, 13, 14, 15, 16, 17, 18, 19, 20, 21, 22, 23, 24, 25, 26] : List Nat) → T0[t]? = some v → a.tmps[t]?.getD undef = v := fun t v ht hv => by rw [hT t ht, hv]; rfl
    match i, hi with
    | 0, _ => exact v_moveS 2 (opAtW ho (by kernel_rfl)) (hT0 2 _ (by decide) h2) (hK w hM)
    | 1, _ => exact v_moveS 1 (opAtW ho (by kernel_rfl)) (hT0 1 _ (by decide) h1) (hK w hM)
    | 2, _ => exact u_nilS 10 (opAtW ho (by kernel_rfl)) ((hU 1 (by kernel_rfl)).2 10 rfl) (hK w hM)
    | 3, _ => exact u_f63_8 11 (opAtW ho (by kernel_rfl)) ((hU 2 (by kernel_rfl)).2 11 rfl) (hK w hM)
    | 4, _ => exact u_loadiS 12 (opAtW ho (by kernel_rfl)) ((hU 3 (by kernel_rfl)).2 12 rfl) ((HD w hM).2.2) (hK w hM)
    | 5, _ => exact u_leq_i 9 13 (opAtW ho (by kernel_rfl)) ((hU 0 (by kernel_rfl)).2 9 rfl) ((hU 4 (by kernel_rfl)).2 13 rfl) (q1) (hK w hM)
    | 6, _ => exact v_moveS 14 (opAtW ho (by kernel_rfl)) ((hU 5 (by kernel_rfl)).2 14 rfl) (hK w hM)
    | 7, _ => exact v_moveS 0 (opAtW ho (by kernel_rfl)) (hT0 0 _ (by decide) h0) (hK w hM)
    | 8, _ => exact v_moveS 2 (opAtW ho (by kernel_rfl)) (hT0 2 _ (by decide) h2) (hK w hM)
    | 9, _ => exact u_nilS 16 (opAtW ho (by kernel_rfl)) ((hU 7 (by kernel_rfl)).2 16 rfl) (hK w hM)
    | 10, _ => exact u_f66_3 18 (opAtW ho (by kernel_rfl)) ((hU 9 (by kernel_rfl)).2 18 rfl) (hK w hM)
    | 11, _ => exact u_i59 19 17 (k := s) hs (opAtW ho (by kernel_rfl)) ((hU 10 (by kernel_rfl)).2 19 rfl) ((hU 8 (by kernel_rfl)).2 17 rfl) (hK w hM)
    | 12, _ => exact u_load58 20 (opAtW ho (by kernel_rfl)) ((hU 11 (by kernel_rfl)).2 20 rfl) (⟨(HD w hM).1, (HD w hM).2.1⟩) (hK w hM)
    | 13, _ => exact u_f27_1 7 (opAtW ho (by kernel_rfl)) (hT0 7 _ (by decide) h7) (hK w hM)
    | 14, _ => exact u_loadiS 22 (opAtW ho (by kernel_rfl)) ((hU 13 (by kernel_rfl)).2 22 rfl) (HE w hM) (hK w hM)
    | 15, _ =>
      have x21 : a.tmps[21]?.getD undef = .agg #[.int .i64 x0, .int .i64 x1] := ((hU 12 (by kernel_rfl)).2 21 rfl)
      have x23 : a.tmps[23]?.getD undef = .int .i64 who := ((hU 14 (by kernel_rfl)).2 23 rfl)
      obtain ⟨dst, op, type, pos, after, guard⟩ := oo
      have ho' : op = .call { callee := .value (.func 157), args := #[.tmp 21, .tmp 23], argTypes := #[153, 3] } := opAtW ho (by kernel_rfl)
      subst ho'
      clear ho hT hU hT0
      have hfun := Tryz.func157
      go_simp
      refine (HA.out w).mono ?_
      rintro r w' ⟨rfl, hb⟩
      exact hK w' (hM.trans (hb.mono hM.size))
    | 16, _ => exact u_notTS 24 (opAtW ho (by kernel_rfl)) ((hU 15 (by kernel_rfl)).2 24 rfl) (hK w hM)
    | 17, _ => exact v_orF 15 25 (opAtW ho (by kernel_rfl)) ((hU 6 (by kernel_rfl)).2 15 rfl) ((hU 16 (by kernel_rfl)).2 25 rfl) (hK w hM)
    | i + 18, h => exact absurd (show i + 18 < 18 from h) (by omega)
  · intro w hM
    exact hend w (hM)
noncomputable def rgComA_ops : Array Oper := opsW Tryz.f150 1
def rgComA_D : List (Option Nat) := [some 9, some 10, some 11, some 12, some 13, some 14, some 15, some 16, some 17, some 18, some 19, some 20]
set_option maxRecDepth 100000 in
set_option maxHeartbeats 4000000 in
theorem rgComA {id : Nat} {ops : Array Oper} (hops : ops = rgComA_ops) (T0 : Array Value) (hsz : 21 ≤ T0.size) (W : World) (g o b : Nat) (n : Int) (q1 : (n != -1) = true) (HN : Hid (∀ w1, Below W.heap.size W w1 → Calls Tryz.prog 160 #[.pointer (some ⟨g, o, none⟩)] w1 fun e w' => e = .returned (.int .i64 n) ∧ w1 = w')) (h0 : T0[0]? = some (.pointer (some ⟨g, 0, none⟩))) (h1 : T0[1]? = some (.pointer (some ⟨g, o, none⟩))) (h7 : T0[7]? = some (.pointer (some ⟨b, 0, none⟩))) {Q : Exit → Act → World → Prop}
    (hend : ∀ w : World, Below W.heap.size W w → Q .normal ⟨putAll T0 [9, 10, 11, 12, 13, 14, 15, 16, 17, 18, 19, 20] [.pointer (some ⟨g, o, none⟩), .int .i64 n, .bool true, .bool true, undef, undef, undef, undef, undef, undef, undef, .bool true], []⟩ w) : (Code.region id ops true).wp Tryz.prog Q ⟨T0, []⟩ W := by
  subst hops
  have hos : rgComA_ops.size = 12 := by kernel_rfl
  have hga : (List.range 12).all (fun i => match rgComA_ops[i]? with | some o => o.guard == ([none, none, none, none, some (3, false), some (3, false), some (3, false), some (3, false), some (3, false), some (3, false), some (3, false), none] : List (Option (Nat × Bool))).getD i none | none => false) = true := by kernel_rfl
  have hds : ((pairsS rgComA_D ([.pointer (some ⟨g, o, none⟩), .int .i64 n, .bool true, .bool true, undef, undef, undef, undef, undef, undef, undef, .bool true] : List Value)).map (·.1)) = [9, 10, 11, 12, 13, 14, 15, 16, 17, 18, 19, 20] := rfl
  refine wp_region_valsG ([.pointer (some ⟨g, o, none⟩), .int .i64 n, .bool true, .bool true, undef, undef, undef, undef, undef, undef, undef, .bool true] : List Value) [true, true, true, true, false, false, false, false, false, false, false, true] rgComA_D (fun _ w => Below W.heap.size W w) W T0 (by rw [hds]; decide) (fun x hx => ?_) (by kernel_rfl) (by kernel_rfl) (fun i o j want ho hg => ?_) (fun i hi hon => ?_) (fun i hi hon don w hM => ?_) ?_ ?_ ?_
  · rw [hds] at hx
    have hall : (([9, 10, 11, 12, 13, 14, 15, 16, 17, 18, 19, 20] : List Nat).all fun d => decide (d < 21)) = true := by decide
    have := List.all_eq_true.1 hall x hx
    simp only [decide_eq_true_eq] at this
    omega
  · have hi : i < 12 := by rw [← hos]; exact (Array.getElem?_eq_some_iff.1 ho).1
    have h1 := List.all_eq_true.1 hga i (by simpa using hi)
    rw [ho] at h1
    simp only [hg, beq_iff_eq] at h1
    match i, hi with
    | 0, _ => cases h1
    | 1, _ => cases h1
    | 2, _ => cases h1
    | 3, _ => cases h1
    | 4, _ => obtain ⟨rfl, rfl⟩ := Prod.mk.inj (Option.some.inj h1); rfl
    | 5, _ => obtain ⟨rfl, rfl⟩ := Prod.mk.inj (Option.some.inj h1); rfl
    | 6, _ => obtain ⟨rfl, rfl⟩ := Prod.mk.inj (Option.some.inj h1); rfl
    | 7, _ => obtain ⟨rfl, rfl⟩ := Prod.mk.inj (Option.some.inj h1); rfl
    | 8, _ => obtain ⟨rfl, rfl⟩ := Prod.mk.inj (Option.some.inj h1); rfl
    | 9, _ => obtain ⟨rfl, rfl⟩ := Prod.mk.inj (Option.some.inj h1); rfl
    | 10, _ => obtain ⟨rfl, rfl⟩ := Prod.mk.inj (Option.some.inj h1); rfl
    | 11, _ => cases h1
    | i + 12, h => exact absurd (show i + 12 < 12 from h) (by omega)
  · match i, hi with
    | 0, _ => cases hon
    | 1, _ => cases hon
    | 2, _ => cases hon
    | 3, _ => cases hon
    | 4, _ => rfl
    | 5, _ => rfl
    | 6, _ => rfl
    | 7, _ => rfl
    | 8, _ => rfl
    | 9, _ => rfl
    | 10, _ => rfl
    | 11, _ => cases hon
    | i + 12, h => exact absurd (show i + 12 < 12 from h) (by omega)
  · match i, hi with
    | 0, _ => cases hon
    | 1, _ => cases hon
    | 2, _ => cases hon
    | 3, _ => cases hon
    | 4, _ => exact hM
    | 5, _ => exact hM
    | 6, _ => exact hM
    | 7, _ => exact hM
    | 8, _ => exact hM
    | 9, _ => exact hM
    | 10, _ => exact hM
    | 11, _ => cases hon
    | i + 12, h => exact absurd (show i + 12 < 12 from h) (by omega)
  · exact (Below.refl _ _).drew
  · intro i oo ho hi hon don a w hT hU hdi hM K hK
    rw [hds] at hT
    have hT0 : ∀ t v, t ∉ ([9, 10, 11, 12, 13, 14, 15, 16, 17, 18, 19, 20] : List Nat) → T0[t]? = some v → a.tmps[t]?.getD undef = v := fun t v ht hv => by rw [hT t ht, hv]; rfl
    match i, hi with
    | 0, _ => exact v_moveS 1 (opAtW ho (by kernel_rfl)) (hT0 1 _ (by decide) h1) (hK w hM)
    | 1, _ =>
      have x9 : a.tmps[9]?.getD undef = .pointer (some ⟨g, o, none⟩) := ((hU 0 (by kernel_rfl)).2 9 rfl)
      obtain ⟨dst, op, type, pos, after, guard⟩ := oo
      have ho' : op = .call { callee := .value (.func 160), args := #[.tmp 9], argTypes := #[190] } := opAtW ho (by kernel_rfl)
      subst ho'
      clear ho hT hU hT0
      have hfun := Tryz.func160
      go_simp
      refine (HN.out w hM).mono ?_
      rintro r w' ⟨rfl, rfl⟩
      exact hK w hM
    | 2, _ => exact u_neq_ic 10 (opAtW ho (by kernel_rfl)) ((hU 1 (by kernel_rfl)).2 10 rfl) (q1) (hK w hM)
    | 3, _ => exact v_moveS 11 (opAtW ho (by kernel_rfl)) ((hU 2 (by kernel_rfl)).2 11 rfl) (hK w hM)
    | 4, _ => exact absurd hon (by decide)
    | 5, _ => exact absurd hon (by decide)
    | 6, _ => exact absurd hon (by decide)
    | 7, _ => exact absurd hon (by decide)
    | 8, _ => exact absurd hon (by decide)
    | 9, _ => exact absurd hon (by decide)
    | 10, _ => exact absurd hon (by decide)
    | 11, _ => exact v_orT 12 19 (opAtW ho (by kernel_rfl)) ((hU 3 (by kernel_rfl)).2 12 rfl) (hK w hM)
    | i + 12, h => exact absurd (show i + 12 < 12 from h) (by omega)
  · intro w hM
    exact hend w (hM)
noncomputable def rgComB_ops : Array Oper := opsW Tryz.f150 1
def rgComB_D : List (Option Nat) := [some 9, some 10, some 11, some 12, some 13, some 14, some 15, some 16, some 17, some 18, some 19, some 20]
set_option maxRecDepth 100000 in
set_option maxHeartbeats 4000000 in
theorem rgComB {id : Nat} {ops : Array Oper} (hops : ops = rgComB_ops) (T0 : Array Value) (hsz : 21 ≤ T0.size) (W : World) (g o b : Nat) (n v x2 : Int) (q1 : (n != -1) = false) (r : Bool) (q2 : (v != x2) = r) (HD : ∀ w1, Below W.heap.size W w1 → w1.cell? ⟨b, 4, none⟩ = some (.int .i64 v) ∧ w1.cell? ⟨g, o + 3, none⟩ = some (.int .i64 x2)) (HN : Hid (∀ w1, Below W.heap.size W w1 → Calls Tryz.prog 160 #[.pointer (some ⟨g, o, none⟩)] w1 fun e w' => e = .returned (.int .i64 n) ∧ w1 = w')) (h0 : T0[0]? = some (.pointer (some ⟨g, 0, none⟩))) (h1 : T0[1]? = some (.pointer (some ⟨g, o, none⟩))) (h7 : T0[7]? = some (.pointer (some ⟨b, 0, none⟩))) {Q : Exit → Act → World → Prop}
    (hend : ∀ w : World, Below W.heap.size W w → Q .normal ⟨putAll T0 [9, 10, 11, 12, 13, 14, 15, 16, 17, 18, 19, 20] [.pointer (some ⟨g, o, none⟩), .int .i64 n, .bool false, .bool false, .pointer (some ⟨b, 4, none⟩), .int .i64 v, .pointer (some ⟨g, o, none⟩), .pointer (some ⟨g, o, none⟩), .pointer (some ⟨g, o + 3, none⟩), .int .i64 x2, .bool r, .bool r], []⟩ w) : (Code.region id ops true).wp Tryz.prog Q ⟨T0, []⟩ W := by
  subst hops
  have hos : rgComB_ops.size = 12 := by kernel_rfl
  have hga : (List.range 12).all (fun i => match rgComB_ops[i]? with | some o => o.guard == ([none, none, none, none, some (3, false), some (3, false), some (3, false), some (3, false), some (3, false), some (3, false), some (3, false), none] : List (Option (Nat × Bool))).getD i none | none => false) = true := by kernel_rfl
  have hds : ((pairsS rgComB_D ([.pointer (some ⟨g, o, none⟩), .int .i64 n, .bool false, .bool false, .pointer (some ⟨b, 4, none⟩), .int .i64 v, .pointer (some ⟨g, o, none⟩), .pointer (some ⟨g, o, none⟩), .pointer (some ⟨g, o + 3, none⟩), .int .i64 x2, .bool r, .bool r] : List Value)).map (·.1)) = [9, 10, 11, 12, 13, 14, 15, 16, 17, 18, 19, 20] := rfl
  refine wp_region_valsG ([.pointer (some ⟨g, o, none⟩), .int .i64 n, .bool false, .bool false, .pointer (some ⟨b, 4, none⟩), .int .i64 v, .pointer (some ⟨g, o, none⟩), .pointer (some ⟨g, o, none⟩), .pointer (some ⟨g, o + 3, none⟩), .int .i64 x2, .bool r, .bool r] : List Value) [true, true, true, true, true, true, true, true, true, true, true, true] rgComB_D (fun _ w => Below W.heap.size W w) W T0 (by rw [hds]; decide) (fun x hx => ?_) (by kernel_rfl) (by kernel_rfl) (fun i o j want ho hg => ?_) (fun i hi hon => ?_) (fun i hi hon don w hM => ?_) ?_ ?_ ?_
  · rw [hds] at hx
    have hall : (([9, 10, 11, 12, 13, 14, 15, 16, 17, 18, 19, 20] : List Nat).all fun d => decide (d < 21)) = true := by decide
    have := List.all_eq_true.1 hall x hx
    simp only [decide_eq_true_eq] at this
    omega
  · have hi : i < 12 := by rw [← hos]; exact (Array.getElem?_eq_some_iff.1 ho).1
    have h1 := List.all_eq_true.1 hga i (by simpa using hi)
    rw [ho] at h1
    simp only [hg, beq_iff_eq] at h1
    match i, hi with
    | 0, _ => cases h1
    | 1, _ => cases h1
    | 2, _ => cases h1
    | 3, _ => cases h1
    | 4, _ => obtain ⟨rfl, rfl⟩ := Prod.mk.inj (Option.some.inj h1); rfl
    | 5, _ => obtain ⟨rfl, rfl⟩ := Prod.mk.inj (Option.some.inj h1); rfl
    | 6, _ => obtain ⟨rfl, rfl⟩ := Prod.mk.inj (Option.some.inj h1); rfl
    | 7, _ => obtain ⟨rfl, rfl⟩ := Prod.mk.inj (Option.some.inj h1); rfl
    | 8, _ => obtain ⟨rfl, rfl⟩ := Prod.mk.inj (Option.some.inj h1); rfl
    | 9, _ => obtain ⟨rfl, rfl⟩ := Prod.mk.inj (Option.some.inj h1); rfl
    | 10, _ => obtain ⟨rfl, rfl⟩ := Prod.mk.inj (Option.some.inj h1); rfl
    | 11, _ => cases h1
    | i + 12, h => exact absurd (show i + 12 < 12 from h) (by omega)
  · match i, hi with
    | 0, _ => cases hon
    | 1, _ => cases hon
    | 2, _ => cases hon
    | 3, _ => cases hon
    | 4, _ => cases hon
    | 5, _ => cases hon
    | 6, _ => cases hon
    | 7, _ => cases hon
    | 8, _ => cases hon
    | 9, _ => cases hon
    | 10, _ => cases hon
    | 11, _ => cases hon
    | i + 12, h => exact absurd (show i + 12 < 12 from h) (by omega)
  · match i, hi with
    | 0, _ => cases hon
    | 1, _ => cases hon
    | 2, _ => cases hon
    | 3, _ => cases hon
    | 4, _ => cases hon
    | 5, _ => cases hon
    | 6, _ => cases hon
    | 7, _ => cases hon
    | 8, _ => cases hon
    | 9, _ => cases hon
    | 10, _ => cases hon
    | 11, _ => cases hon
    | i + 12, h => exact absurd (show i + 12 < 12 from h) (by omega)
  · exact (Below.refl _ _).drew
  · intro i oo ho hi hon don a w hT hU hdi hM K hK
    rw [hds] at hT
    have hT0 : ∀ t v, t ∉ ([9, 10, 11, 12, 13, 14, 15, 16, 17, 18, 19, 20] : List Nat) → T0[t]? = some v → a.tmps[t]?.getD undef = v := fun t v ht hv => by rw [hT t ht, hv]; rfl
    match i, hi with
    | 0, _ => exact v_moveS 1 (opAtW ho (by kernel_rfl)) (hT0 1 _ (by decide) h1) (hK w hM)
    | 1, _ =>
      have x9 : a.tmps[9]?.getD undef = .pointer (some ⟨g, o, none⟩) := ((hU 0 (by kernel_rfl)).2 9 rfl)
      obtain ⟨dst, op, type, pos, after, guard⟩ := oo
      have ho' : op = .call { callee := .value (.func 160), args := #[.tmp 9], argTypes := #[190] } := opAtW ho (by kernel_rfl)
      subst ho'
      clear ho hT hU hT0
      have hfun := Tryz.func160
      go_simp
      refine (HN.out w hM).mono ?_
      rintro r w' ⟨rfl, rfl⟩
      exact hK w hM
    | 2, _ => exact u_neq_ic 10 (opAtW ho (by kernel_rfl)) ((hU 1 (by kernel_rfl)).2 10 rfl) (q1) (hK w hM)
    | 3, _ => exact v_moveS 11 (opAtW ho (by kernel_rfl)) ((hU 2 (by kernel_rfl)).2 11 rfl) (hK w hM)
    | 4, _ => exact u_f27_4 7 (opAtW ho (by kernel_rfl)) (hT0 7 _ (by decide) h7) (hK w hM)
    | 5, _ => exact u_loadiS 13 (opAtW ho (by kernel_rfl)) ((hU 4 (by kernel_rfl)).2 13 rfl) ((HD w hM).1) (hK w hM)
    | 6, _ => exact v_moveS 1 (opAtW ho (by kernel_rfl)) (hT0 1 _ (by decide) h1) (hK w hM)
    | 7, _ => exact u_nilS 15 (opAtW ho (by kernel_rfl)) ((hU 6 (by kernel_rfl)).2 15 rfl) (hK w hM)
    | 8, _ => exact u_f63_3 16 (opAtW ho (by kernel_rfl)) ((hU 7 (by kernel_rfl)).2 16 rfl) (hK w hM)
    | 9, _ => exact u_loadiS 17 (opAtW ho (by kernel_rfl)) ((hU 8 (by kernel_rfl)).2 17 rfl) ((HD w hM).2) (hK w hM)
    | 10, _ => exact u_neq_i 14 18 (opAtW ho (by kernel_rfl)) ((hU 5 (by kernel_rfl)).2 14 rfl) ((hU 9 (by kernel_rfl)).2 18 rfl) (q2) (hK w hM)
    | 11, _ => exact v_orF 12 19 (opAtW ho (by kernel_rfl)) ((hU 3 (by kernel_rfl)).2 12 rfl) ((hU 10 (by kernel_rfl)).2 19 rfl) (hK w hM)
    | i + 12, h => exact absurd (show i + 12 < 12 from h) (by omega)
  · intro w hM
    exact hend w (hM)
end Go.Proofs.YteigglhhnemngaaGreatDoor
