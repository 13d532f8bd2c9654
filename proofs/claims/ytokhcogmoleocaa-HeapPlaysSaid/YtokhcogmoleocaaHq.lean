/-
  THE DRAWN REGION OF HeapNames (a make beside loads, then New, which refuses); make. Conditions: as they stand.
-/
import Derived.Test.YtokhcogmoleocaaHp
import Derived.Laws.OwnMore
namespace Go.Proofs.Ytokhcogmoleocaa
set_option maxRecDepth 100000
open Go.RowKit Go.Deep
set_option linter.unusedVariables false
section
variable {a : Act} {w : World} {K : Act → World → Prop} {Q : Exit → Act → World → Prop} {o : Oper}
theorem int64_infoQ : (Try.prog.info? 2).map (fun i => (i.zero, i.size, i.bytes)) = some (some (.int .i64 0), 1, 8) := by kernel_rfl
theorem hn_make (n : Nat) (hn : n ≤ 1000) (x : Operand) (ho : o.op = .makeSlice 33 x x) (hx : a.eval x = .int .i64 n) (hK : ∀ w', w'.ownsRow w.heap.size 2 1 (.slice (some ⟨w.heap.size, 0, none⟩) n n) n ((madeCells (Value.int .i64 0).cells (n * 1)).toList) → Below w.heap.size w w' → K (a.put o.dst (.slice (some ⟨w.heap.size, 0, none⟩) n n)) w') : Oper.wp Try.prog o a w K Q := by
  obtain ⟨i0, hi0, hz0, hz1, hz2⟩ := info_parts2 int64_infoQ
  obtain ⟨w', hrun, r1, r2⟩ := run_make_full (P := Try.prog) w w.heap.size 33 2 i0 (.int .i64 0) 1 Try.underlying33 hi0 hz0 hz1 .i64 .i64 n (by rw [hz2]; omega) (by unfold maxLen; omega) (Nat.le_refl _)
  have hbl : Below w.heap.size w w' := ⟨r2.os, r2.tape, r2.output, r2.size, fun i hi => r2.block i hi (by simp)⟩
  have hrun' : (execOp a.eval o).run Try.prog w = .ok (.value (.slice (some ⟨w.heap.size, 0, none⟩) n n)) w' := by
    simp only [execOp, ho, hx, Sem.run_bind, hrun, Result.andThen_ok, Sem.run_pure]
  unfold Oper.wp
  rw [hrun']
  exact hK w' r1 hbl
theorem q_field (x g i k : Nat) (hi : i = 0 ∧ k = 0 ∨ i = 1 ∧ k = 1 ∨ i = 2 ∧ k = 2) (ho : o.op = Op.fieldAddr 39 (.tmp x) i) (hx : a.tmps[x]?.getD undef = .pointer (some ⟨g, 0, none⟩)) (hK : K (a.put o.dst (.pointer (some ⟨g, k, none⟩))) w) : Oper.wp Try.prog o a w K Q := by
  obtain ⟨dst, op, type, pos, after, guard⟩ := o
  have ho' : op = _ := ho
  subst ho'
  clear ho
  rcases hi with ⟨rfl, rfl⟩ | ⟨rfl, rfl⟩ | ⟨rfl, rfl⟩ <;> (go_simp; exact hK)
theorem q_load (x : Nat) (q : Addr) {n : Int} (ho : o.op = Op.load 3 (.tmp x)) (hx : a.tmps[x]?.getD undef = .pointer (some q)) (hv : w.cell? q = some (.int .i64 n)) (hK : K (a.put o.dst (.int .i64 n)) w) : Oper.wp Try.prog o a w K Q := by
  obtain ⟨dst, op, type, pos, after, guard⟩ := o
  have ho' : op = _ := ho
  subst ho'
  clear ho
  go_simp
  exact hK
theorem q_extract (x i : Nat) (hi : i = 0 ∨ i = 1) {u v : Value} (ho : o.op = Op.extract (.tmp x) i) (hx : a.tmps[x]?.getD undef = .tuple #[u, v]) (hK : K (a.put o.dst (if i = 0 then u else v)) w) : Oper.wp Try.prog o a w K Q := by
  obtain ⟨dst, op, type, pos, after, guard⟩ := o
  have ho' : op = _ := ho
  subst ho'
  clear ho
  rcases hi with rfl | rfl <;> (go_simp; exact hK)
theorem q_new (x y z : Nat) {v0 v1 v2 : Value} {P : Ending → World → Prop} (ho : o.op = .call { callee := .value (.func 28), args := #[.tmp x, .tmp y, .tmp z], argTypes := #[33, 3, 3] }) (hx : a.tmps[x]?.getD undef = v0) (hy : a.tmps[y]?.getD undef = v1) (hz : a.tmps[z]?.getD undef = v2) (hc : Calls Try.prog 28 #[v0, v1, v2] w P) (hK : ∀ e w', P e w' → ∃ r, e = .returned r ∧ K (a.put o.dst r) w') : Oper.wp Try.prog o a w K Q := by
  obtain ⟨dst, op, type, pos, after, guard⟩ := o
  have ho' : op = _ := ho
  subst ho'
  clear ho
  subst hx hy hz
  have h1 := Try.func28
  go_simp
  refine hc.mono ?_
  rintro e w' h
  obtain ⟨r, rfl, h2⟩ := hK e w' h
  exact h2
end
/-- What stands in each temporary. -/
def KQ (g n : Nat) (st li : Int) : Nat → Value → Prop
  | 0, u => u = .pointer (some ⟨g, 0, none⟩)
  | 1, u => u = .int .i64 n
  | 2, u => ∃ A, u = .slice A n n
  | 3, u => u = .pointer (some ⟨g, 1, none⟩)
  | 4, u => u = .int .i64 st
  | 5, u => u = .pointer (some ⟨g, 2, none⟩)
  | 6, u => u = .int .i64 li
  | 7, u => u = .tuple #[.pointer none, .int .i64 1]
  | 8, u => u = .tuple #[.pointer none, .int .i64 1]
  | 9, u => u = .pointer none
  | 10, u => u = .int .i64 1
  | 11, u => u = .pointer none
  | 12, u => u = .int .i64 1
  | _, _ => True
set_option maxRecDepth 100000 in
set_option maxHeartbeats 4000000 in
theorem regQ {id : Nat} {ops : Array Oper} (hops : ops = opsIn Try.f3 8) (T0 : Array Value) (hsz : 261 ≤ T0.size) (W : World) (g n : Nat) (st li : Int) (hn : n ≤ 1000) (h5 : T0[5]? = some (.pointer (some ⟨g, 0, none⟩))) (hg : g < W.heap.size) (c0 : W.cell? ⟨g, 0, none⟩ = some (.int .i64 n)) (c1 : W.cell? ⟨g, 1, none⟩ = some (.int .i64 st)) (c2 : W.cell? ⟨g, 2, none⟩ = some (.int .i64 li)) (hN : ∀ (A : Option Addr) (c : Nat) (w : World), Calls Try.prog 28 #[.slice A n c, .int .i64 st, .int .i64 li] w fun e w' => e = .returned (.tuple #[.pointer none, .int .i64 1]) ∧ w = w') {Q : Exit → Act → World → Prop}
    (hend : ∀ (u0 u1 u2 u3 u4 u5 u6 u7 u8 u9 u10 : Value) (w : World), Below W.heap.size W w → Q .normal ⟨putAll T0 [122, 123, 124, 125, 126, 127, 128, 129, 121, 130, 131, 6, 7] [u0, u1, u2, u3, u4, u5, u6, u7, u8, u9, u10, .pointer none, .int .i64 1], []⟩ w) :
    (Code.region id ops true).wp Try.prog Q ⟨T0, []⟩ W := by
  subst hops
  have hos : (opsIn Try.f3 8).size = 13 := by kernel_rfl
  refine wp_region_st (fun don u w => Below W.heap.size W w ∧ ∀ j, don j = true → KQ g n st li j (u j)) [122, 123, 124, 125, 126, 127, 128, 129, 121, 130, 131, 6, 7] W T0 (by decide) (fun x hx => ?_) (by kernel_rfl) (by kernel_rfl) (fun u => ⟨(Below.refl _ _).drew, fun j h => by cases h⟩) ?_ ?_
  · simp at hx
    omega
  · intro i o ho hi4 don u a w hT hU hdi hdone hJ K hK
    have hwait : ∀ j, waitsH (opsIn Try.f3 8) i j = true → don j = true := fun j hj => waitsH_of (P := fun j => don j = true) ho hdone hj
    have hv : ∀ j, waitsH (opsIn Try.f3 8) i j = true → KQ g n st li j (u j) := fun j hj => hJ.2 j (hwait j hj)
    have hU2 : ∀ j, j < 13 → ∀ v, u j = v → a.tmps[([122, 123, 124, 125, 126, 127, 128, 129, 121, 130, 131, 6, 7] : List Nat).getD j 0]?.getD undef = v := fun j hj v hv => by
      rw [hU j hj, hv]
      rfl
    have fin : ∀ v w', Below W.heap.size W w' → KQ g n st li i v → K (a.put o.dst v) w' := fun v w' b hk => hK v w' ⟨b, fun j hd => by
      dsimp only at hd ⊢
      by_cases h : j = i
      · subst h; rw [if_pos rfl]; exact hk
      · rw [if_neg h]
        rw [beq_eq_false_iff_ne.2 h, Bool.false_or] at hd
        exact hJ.2 j hd⟩
    have hcell : ∀ k v, W.cell? ⟨g, k, none⟩ = some v → w.cell? ⟨g, k, none⟩ = some v := fun k v h => (hJ.1.cell (p := ⟨g, k, none⟩) hg).trans h
    have t5 : a.tmps[5]?.getD undef = .pointer (some ⟨g, 0, none⟩) := by rw [hT 5 (by decide), h5]; rfl
    match i, hi4 with
    | 0, _ => exact q_field 5 g 0 0 (.inl ⟨rfl, rfl⟩) (opAtH ho (by kernel_rfl)) t5 (fin _ _ hJ.1 rfl)
    | 1, _ => exact q_load 122 ⟨g, 0, none⟩ (opAtH ho (by kernel_rfl)) (hU2 0 (by decide) _ (hv 0 (by kernel_rfl))) (hcell _ _ c0) (fin _ _ hJ.1 rfl)
    | 2, _ => exact hn_make n hn (.tmp 123) (opAtH ho (by kernel_rfl)) (by simpa [Act.eval, Array.getD_eq_getD_getElem?] using hU2 1 (by decide) _ (hv 1 (by kernel_rfl))) (fun w' _ b => fin _ _ (hJ.1.trans (b.mono hJ.1.size)) ⟨_, rfl⟩)
    | 3, _ => exact q_field 5 g 1 1 (.inr (.inl ⟨rfl, rfl⟩)) (opAtH ho (by kernel_rfl)) t5 (fin _ _ hJ.1 rfl)
    | 4, _ => exact q_load 125 ⟨g, 1, none⟩ (opAtH ho (by kernel_rfl)) (hU2 3 (by decide) _ (hv 3 (by kernel_rfl))) (hcell _ _ c1) (fin _ _ hJ.1 rfl)
    | 5, _ => exact q_field 5 g 2 2 (.inr (.inr ⟨rfl, rfl⟩)) (opAtH ho (by kernel_rfl)) t5 (fin _ _ hJ.1 rfl)
    | 6, _ => exact q_load 127 ⟨g, 2, none⟩ (opAtH ho (by kernel_rfl)) (hU2 5 (by decide) _ (hv 5 (by kernel_rfl))) (hcell _ _ c2) (fin _ _ hJ.1 rfl)
    | 7, _ =>
      obtain ⟨A, hA⟩ := hv 2 (by kernel_rfl)
      refine q_new 124 126 128 (opAtH ho (by kernel_rfl)) (hU2 2 (by decide) _ hA) (hU2 4 (by decide) _ (hv 4 (by kernel_rfl))) (hU2 6 (by decide) _ (hv 6 (by kernel_rfl))) (hN A n w) ?_
      rintro e w' ⟨rfl, rfl⟩
      exact ⟨_, rfl, fin _ _ hJ.1 rfl⟩
    | 8, _ => exact h_move 129 (opAtH ho (by kernel_rfl)) (hU2 7 (by decide) _ (hv 7 (by kernel_rfl))) (fin _ _ hJ.1 rfl)
    | 9, _ => exact q_extract 121 0 (.inl rfl) (opAtH ho (by kernel_rfl)) (hU2 8 (by decide) _ (hv 8 (by kernel_rfl))) (fin _ _ hJ.1 rfl)
    | 10, _ => exact q_extract 121 1 (.inr rfl) (opAtH ho (by kernel_rfl)) (hU2 8 (by decide) _ (hv 8 (by kernel_rfl))) (fin _ _ hJ.1 rfl)
    | 11, _ => exact h_assign 130 (opAtH ho (by kernel_rfl)) (hU2 9 (by decide) _ (hv 9 (by kernel_rfl))) (fin _ _ hJ.1 rfl)
    | 12, _ => exact h_assign 131 (opAtH ho (by kernel_rfl)) (hU2 10 (by decide) _ (hv 10 (by kernel_rfl))) (fin _ _ hJ.1 rfl)
    | i + 13, h => exact absurd (show i + 13 < 13 from h) (by omega)
  · intro us w hu hJ
    match us, hu with
    | [u0, u1, u2, u3, u4, u5, u6, u7, u8, u9, u10, u11, u12], _ =>
      have e11 : u11 = .pointer none := hJ.2 11 rfl
      have e12 : u12 = .int .i64 1 := hJ.2 12 rfl
      subst e11 e12
      rw [show (opsIn Try.f3 8).toList.drop ([122, 123, 124, 125, 126, 127, 128, 129, 121, 130, 131, 6, 7] : List Nat).length = [] from List.drop_eq_nil_of_le (by simp [hos]), wpList]
      exact hend u0 u1 u2 u3 u4 u5 u6 u7 u8 u9 u10 w hJ.1
end Go.Proofs.Ytokhcogmoleocaa
