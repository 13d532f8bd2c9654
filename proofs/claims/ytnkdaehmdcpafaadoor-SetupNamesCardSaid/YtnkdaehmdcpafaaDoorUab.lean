/-
  THE DRAWN REGIONS OF SetupNames: what is made, where it lies, and what is stored there, in whatever order. Conditions: as they stand.
-/
import Derived.Test.YtnkdaehmdcpafaaDoorUn
namespace Go.Proofs.YtnkdaehmdcpafaaDoor
open Go.RowKit Go.Deep
set_option linter.unusedVariables false
section
variable {a : Act} {w : World} {K : Act → World → Prop} {Q : Exit → Act → World → Prop} {o : Oper}
theorem nm_make {tS tE : TypeId} {z : Value} {bytes : Nat} (hu : Tryd.prog.underlying tS = some (.slice tE)) (hinf : (Tryd.prog.info? tE).map (fun i => (i.zero, i.size, i.bytes)) = some (some z, 1, bytes)) (n : Nat) (hb : bytes * n ≤ 281474976710656) (hn : n ≤ 1000) (c : Int) (hc : c = (n : Int)) (hz : (madeCells z.cells (n * 1)).toList = List.replicate n z) (ho : o.op = .makeSlice tS (.const (.int .i64 c)) (.const (.int .i64 c)))
    (hK : ∀ w', w'.heap[w.heap.size]? = some (.cells (List.replicate n z).toArray tE (0, 0)) → Below w.heap.size w w' → w.heap.size < w'.heap.size → K (a.put o.dst (.slice (some ⟨w.heap.size, 0, none⟩) n n)) w') : Oper.wp Tryd.prog o a w K Q := by
  obtain ⟨i0, hi0, hz0, hz1, hz2⟩ := Go.info_parts hinf
  obtain ⟨w', hrun, r1, r2⟩ := run_make_full (P := Tryd.prog) w w.heap.size tS tE i0 z 1 hu hi0 hz0 hz1 .i64 .i64 n (by rw [hz2]; exact hb) (by unfold maxLen; omega) (Nat.le_refl _)
  subst hc
  unfold Oper.wp
  simp [execOp, ho, Act.eval, hrun, Result.andThen]
  have hbl : Below w.heap.size w w' := ⟨r2.os, r2.tape, r2.output, r2.size, fun i hi => r2.block i hi (by simp)⟩
  obtain ⟨h1, ⟨h2, _⟩ | ⟨g, cap, cur, hv, h3, h4, h5, h6, h7, h8⟩⟩ := r1
  · cases h2
  · injection hv with e1 e2 e3
    injection e1 with e1
    injection e1 with e1 _
    subst e1
    subst e3
    have hcur : cur = (List.replicate n z).toArray := by
      rw [hz, List.take_of_length_le (by simp; omega)] at h8
      rw [← h8]
    rw [hcur] at h4
    exact hK w' h4 hbl (lt_of_block h4)
theorem nm_build (x y : Nat) {I T : Option Addr} {n c M c' : Nat} (ho : o.op = .build 25 #[(0, .const (.int .i64 32)), (1, .const (.int .i64 1099511627776)), (2, .const (.int .i64 1000)), (3, .tmp x), (4, .tmp y)]) (hx : a.tmps[x]?.getD undef = .slice I n c) (hy : a.tmps[y]?.getD undef = .slice T M c') (hK : K (a.put o.dst (.agg #[.int .i64 32, .int .i64 1099511627776, .int .i64 1000, .slice I n c, .slice T M c'])) w) : Oper.wp Tryd.prog o a w K Q := by
  obtain ⟨dst, op, type, pos, after, guard⟩ := o
  have ho' : op = _ := ho
  subst ho'
  clear ho
  go_simp
  exact hK
theorem nm_field (x g : Nat) (ho : o.op = .fieldAddr 25 (.tmp x) 4) (hx : a.tmps[x]?.getD undef = .pointer (some ⟨g, 0, none⟩)) (hK : K (a.put o.dst (.pointer (some ⟨g, 4, none⟩))) w) : Oper.wp Tryd.prog o a w K Q := by
  obtain ⟨dst, op, type, pos, after, guard⟩ := o
  have ho' : op = _ := ho
  subst ho'
  clear ho
  go_simp
  exact hK
theorem nm_load (x g : Nat) {u : Value} (ho : o.op = .load 23 (.tmp x)) (hx : a.tmps[x]?.getD undef = .pointer (some ⟨g, 4, none⟩)) (hc : w.cell? ⟨g, 4, none⟩ = some u) (hK : K (a.put o.dst u) w) : Oper.wp Tryd.prog o a w K Q := by
  obtain ⟨dst, op, type, pos, after, guard⟩ := o
  have ho' : op = _ := ho
  subst ho'
  clear ho
  have hi := Tryd.isAgg23
  go_simp
  exact hK
theorem nm_move (x : Nat) {v : Value} (ho : o.op = .move (.tmp x)) (hx : a.tmps[x]?.getD undef = v) (hK : K (a.put o.dst v) w) : Oper.wp Tryd.prog o a w K Q := by
  obtain ⟨dst, op, type, pos, after, guard⟩ := o
  have ho' : op = _ := ho
  subst ho'
  clear ho
  go_simp
  exact hK
theorem nm_index (x y g k : Nat) {n c : Nat} (ho : o.op = .indexAddr 23 (.tmp x) (.tmp y)) (hx : a.tmps[x]?.getD undef = .slice (some ⟨g, 0, none⟩) n c) (hy : a.tmps[y]?.getD undef = .int .i64 k) (hkn : k < n) (hn : n ≤ 1000) (hK : K (a.put o.dst (.pointer (some ⟨g, k, none⟩))) w) : Oper.wp Tryd.prog o a w K Q := by
  obtain ⟨dst, op, type, pos, after, guard⟩ := o
  have ho' : op = _ := ho
  subst ho'
  clear ho
  have h1 : (k : Int) < (n : Int) := by omega
  go_simp
  exact hK
theorem nm_indexc (x g : Nat) {c : Nat} (ho : o.op = .indexAddr 23 (.tmp x) (.const (.int .i64 2))) (hx : a.tmps[x]?.getD undef = .slice (some ⟨g, 0, none⟩) 6 c) (hK : K (a.put o.dst (.pointer (some ⟨g, 2, none⟩))) w) : Oper.wp Tryd.prog o a w K Q := by
  obtain ⟨dst, op, type, pos, after, guard⟩ := o
  have ho' : op = _ := ho
  subst ho'
  clear ho
  go_simp
  exact hK
theorem nm_store (x y g k : Nat) {u : Value} {B : Option Addr} {n c : Nat} (ho : o.op = .store 33 (.tmp x) (.tmp y)) (hx : a.tmps[x]?.getD undef = .pointer (some ⟨g, k, none⟩)) (hy : a.tmps[y]?.getD undef = .slice B n c) (hc : w.cell? ⟨g, k, none⟩ = some u) (hf : w.frozen? ⟨g, k, none⟩ = false) (hK : K (a.put o.dst undef) (w.setCell ⟨g, k, none⟩ (.slice B n c))) : Oper.wp Tryd.prog o a w K Q := by
  obtain ⟨dst, op, type, pos, after, guard⟩ := o
  have ho' : op = _ := ho
  subst ho'
  clear ho
  have hi := Tryd.isAgg33
  go_simp
  exact hK
end
noncomputable def opsOfN (n : Nat) : Array Oper := match Tryd.f5.body with
  | some c => (regOpsA n c).getD #[]
  | none => #[]
theorem ty_ne7 {w : World} {g g' : Nat} {xs ys : Array Value} {t t' : TypeId} (h : w.heap[g]? = some (.cells xs t (0, 0))) (h' : w.heap[g']? = some (.cells ys t' (0, 0))) (ht : t ≠ t') : g ≠ g' := by
  rintro rfl
  rw [h] at h'
  injection h' with h'
  injection h' with _ e
  exact ht e
/-- A new row, all of it zero. -/
def RowK (t : TypeId) (n : Nat) (z : Value) (B lo hi : Nat) (v : Value) (w : World) : Prop := ∃ g, v = .slice (some ⟨g, 0, none⟩) n n ∧ B ≤ g ∧ lo ≤ g ∧ g < hi ∧ w.heap[g]? = some (.cells (List.replicate n z).toArray t (0, 0))
theorem RowK.mono {t : TypeId} {n : Nat} {z : Value} {B x y : Nat} {v : Value} {w w' : World} (hy : y ≤ w.heap.size) (b : Below w.heap.size w w') (h : RowK t n z B x y v w) : RowK t n z B x y v w' := by
  obtain ⟨g, e, h0, h1, h2, h3⟩ := h
  exact ⟨g, e, h0, h1, h2, (b.block g (by omega)).trans h3⟩
theorem rowK_new {tS tE : TypeId} {z : Value} {n B : Nat} {w w' : World} (hB : B ≤ w.heap.size) (h : w'.heap[w.heap.size]? = some (.cells (List.replicate n z).toArray tE (0, 0))) (hl : w.heap.size < w'.heap.size) : RowK tE n z B w.heap.size w'.heap.size (.slice (some ⟨w.heap.size, 0, none⟩) n n) w' := ⟨_, rfl, hB, Nat.le_refl _, hl, h⟩
def AgK (W : World) (v : Value) (w : World) : Prop := ∃ g1 g2, v = .agg #[.int .i64 32, .int .i64 1099511627776, .int .i64 1000, .slice (some ⟨g1, 0, none⟩) 32 32, .slice (some ⟨g2, 0, none⟩) 6 6] ∧ W.heap.size ≤ g1 ∧ W.heap.size ≤ g2 ∧ w.heap[g1]? = some (.cells (List.replicate 32 (Value.int .i64 0)).toArray 2 (0, 0)) ∧ w.heap[g2]? = some (.cells (List.replicate 6 (Value.slice none 0 0)).toArray 33 (0, 0))
def N1K (W : World) : Nat → Nat → Nat → Value → World → Prop
  | 0, lo, hi, v, w => RowK 2 32 (.int .i64 0) W.heap.size lo hi v w
  | 1, lo, hi, v, w => RowK 33 6 (.slice none 0 0) W.heap.size lo hi v w
  | 2, _, _, v, w => AgK W v w
  | 3, lo, hi, v, w => BoxK lo hi v w
  | _, _, _, _, _ => False
theorem AgK.mono {W : World} {v : Value} {w w' : World} (b : Below w.heap.size w w') (h : AgK W v w) : AgK W v w' := by
  obtain ⟨g1, g2, e, h1, h2, h3, h4⟩ := h
  exact ⟨g1, g2, e, h1, h2, (b.block g1 (lt_of_block h3)).trans h3, (b.block g2 (lt_of_block h4)).trans h4⟩
theorem N1K.mono {W : World} (i x y : Nat) (v : Value) (w w' : World) (hy : y ≤ w.heap.size) (b : Below w.heap.size w w') (h : N1K W i x y v w) : N1K W i x y v w' := by
  match i, h with
  | 0, h => exact RowK.mono hy b h
  | 1, h => exact RowK.mono hy b h
  | 2, h => exact AgK.mono b h
  | 3, h => exact BoxK.mono hy b h
  | _ + 4, h => exact h.elim
set_option maxRecDepth 100000
theorem frameN1 (T0 : Array Value) (hsz : 157 ≤ T0.size) (u0 u1 u2 u3 : Value) : (putAll T0 [18, 19, 20, 1] [u0, u1, u2, u3])[1]? = some u3 ∧ (putAll T0 [18, 19, 20, 1] [u0, u1, u2, u3])[20]? = some u2 := by
  simp only [putAll]
  refine ⟨?_, ?_⟩ <;> simp [Array.getElem?_setIfInBounds] <;> omega
theorem opN1 {o : Oper} (ho : (opsOfN 1)[4]? = some o) : o.op = .store 25 (.tmp 1) (.tmp 20) := opAtA ho (by kernel_rfl)
theorem guN1 {o : Oper} (ho : (opsOfN 1)[4]? = some o) : o.guard = none := guardAtA ho (by kernel_rfl)
theorem dsN1 {o : Oper} (ho : (opsOfN 1)[4]? = some o) : o.dst = none := dstAtA ho (by kernel_rfl)
theorem regN1 {id : Nat} {ops : Array Oper} (hops : ops = opsOfN 1) (T0 : Array Value) (hsz : 157 ≤ T0.size) (W : World) {Q : Exit → Act → World → Prop}
    (hend : ∀ (u0 u1 u2 : Value) (g1 g2 gA : Nat) (w : World), Below W.heap.size W w → W.heap.size ≤ g1 → W.heap.size ≤ g2 → W.heap.size ≤ gA → w.heap[g1]? = some (.cells (List.replicate 32 (Value.int .i64 0)).toArray 2 (0, 0)) → w.heap[g2]? = some (.cells (List.replicate 6 (Value.slice none 0 0)).toArray 33 (0, 0)) →
      w.heap[gA]? = some (.cells #[.int .i64 32, .int .i64 1099511627776, .int .i64 1000, .slice (some ⟨g1, 0, none⟩) 32 32, .slice (some ⟨g2, 0, none⟩) 6 6] 25 (0, 0)) → Q .normal ⟨putAll T0 [18, 19, 20, 1] [u0, u1, u2, .pointer (some ⟨gA, 0, none⟩)], []⟩ w) :
    (Code.region id ops true).wp Tryd.prog Q ⟨T0, []⟩ W := by
  subst hops
  have hos : (opsOfN 1).size = 5 := by kernel_rfl
  refine wp_region_tail (N1K W) [18, 19, 20, 1] W T0 (by decide) (fun x hx => ?_) (by kernel_rfl) (by kernel_rfl) (fun i x y v w w' _ hy b h => N1K.mono i x y v w w' hy b h) ?_ ?_
  · simp at hx
    omega
  · intro i o ho hi4 a w hT hdone hlow K hK
    have hwait : ∀ j, waitsA (opsOfN 1) i j = true → ∃ v x y, a.tmps[([18, 19, 20, 1] : List Nat).getD j 0]? = some v ∧ N1K W j x y v w := fun j hj => waitsA_of (P := fun j => ∃ v x y, a.tmps[([18, 19, 20, 1] : List Nat).getD j 0]? = some v ∧ N1K W j x y v w) ho hdone hj
    match i, hi4 with
    | 0, _ => exact nm_make (z := .int .i64 0) (bytes := 8) Tryd.underlying22 (by kernel_rfl) 32 (by decide) (by decide) 32 rfl (by kernel_rfl) (opAtA ho (by kernel_rfl)) fun w' h1 h2 h3 => hK _ w' h2 (rowK_new (tS := 22) hlow.size h1 h3)
    | 1, _ => exact nm_make (z := .slice none 0 0) (bytes := 24) Tryd.underlying23 (by kernel_rfl) 6 (by decide) (by decide) 6 rfl (by kernel_rfl) (opAtA ho (by kernel_rfl)) fun w' h1 h2 h3 => hK _ w' h2 (rowK_new (tS := 23) hlow.size h1 h3)
    | 2, _ =>
      obtain ⟨v0, x0, y0, e0, g1, rfl, a1, _, _, a2⟩ := hwait 0 (by kernel_rfl)
      obtain ⟨v1, x1, y1, e1, g2, rfl, b1, _, _, b2⟩ := hwait 1 (by kernel_rfl)
      exact nm_build 18 19 (opAtA ho (by kernel_rfl)) (getD_frame e0) (getD_frame e1) (hK _ w (Below.refl _ _) ⟨g1, g2, rfl, a1, b1, a2, b2⟩)
    | 3, _ => exact al_alloc (opAtA ho (by kernel_rfl)) (hK _ _ ((Below.refl _ _).alloc (Nat.le_refl _) _) ⟨w.heap.size, rfl, Nat.le_refl _, by simp, heap_alloc_new w _⟩)
  · intro us lo' hi' w hu hlow hS hdj
    match us, hu with
    | [u0, u1, u2, u3], _ =>
      obtain ⟨_, _, _, g1, g2, e2, a1, b1, a2, b2⟩ := hS 2 (by decide)
      obtain ⟨p1, _, _, gA, e3, p2, _, p3⟩ := hS 3 (by decide)
      replace e2 : u2 = _ := e2
      replace e3 : u3 = _ := e3
      obtain ⟨f1, f20⟩ := frameN1 T0 hsz u0 u1 u2 u3
      replace f1 := f1.trans (congrArg some e3)
      replace f20 := f20.trans (congrArg some e2)
      have t1 := getD_frame6 f1
      have t20 := getD_frame6 f20
      obtain ⟨o4, h4⟩ : ∃ o, (opsOfN 1)[4]? = some o := ⟨_, Array.getElem?_eq_getElem (by omega)⟩
      rw [show ([18, 19, 20, 1] : List Nat).length = 4 from rfl]
      refine wpList_step h4 (guN1 h4) ?_
      refine al_store (st := 32) (cl := 1099511627776) (tr := 1000) (I := some ⟨g1, 0, none⟩) (T := some ⟨g2, 0, none⟩) (n := 32) (c := 32) (M := 6) (c' := 6) 1 20 gA (opN1 h4) ?_ ?_ p3 ?_
      · dsimp only
        exact t1
      · dsimp only
        exact t20
      rw [dsN1 h4]
      dsimp only [Act.put]
      obtain ⟨wA, hwA⟩ : ∃ wA, wA = ((((w.setCell ⟨gA, 0, none⟩ (.int .i64 32)).setCell ⟨gA, 1, none⟩ (.int .i64 1099511627776)).setCell ⟨gA, 2, none⟩ (.int .i64 1000)).setCell ⟨gA, 3, none⟩ (.slice (some ⟨g1, 0, none⟩) 32 32)).setCell ⟨gA, 4, none⟩ (.slice (some ⟨g2, 0, none⟩) 6 6) := ⟨_, rfl⟩
      obtain ⟨kA1, kA2, kA3, kA4⟩ := set_box hwA p3
      rw [← hwA, show (opsOfN 1).toList.drop (4 + 1) = [] from List.drop_eq_nil_of_le (by simp [hos])]
      have n1 := ty_ne7 a2 p3 (by decide)
      have n2 := ty_ne7 b2 p3 (by decide)
      have hres := hend u0 u1 u2 g1 g2 gA wA (kA4 _ hlow (by omega)) a1 b1 (by omega) ((kA2 g1 n1).trans a2) ((kA2 g2 n2).trans b2) kA1
      rw [← e3] at hres
      rw [wpList]
      exact hres
def regN5K (W : World) (gA gT c k : Nat) : Nat → Nat → Nat → Value → World → Prop
  | 0, lo, hi, v, w => v = .pointer (some ⟨gA, 4, none⟩)
  | 1, lo, hi, v, w => v = .slice (some ⟨gT, 0, none⟩) 6 c
  | 2, lo, hi, v, w => v = .int .i64 k
  | 3, lo, hi, v, w => RowK 34 6 (.slice none 0 0) W.heap.size lo hi v w
  | 4, lo, hi, v, w => v = .pointer (some ⟨gT, k, none⟩)
  | _, _, _, _, _ => False
theorem regN5K.mono {W : World} {gA gT c k : Nat} (i x y : Nat) (v : Value) (w w' : World) (hy : y ≤ w.heap.size) (b : Below w.heap.size w w') (h : regN5K W gA gT c k i x y v w) : regN5K W gA gT c k i x y v w' := by
  match i, h with
  | 0, h => exact h
  | 1, h => exact h
  | 2, h => exact h
  | 3, h => exact RowK.mono hy b h
  | 4, h => exact h
  | _ + 5, h => exact h.elim
theorem frameregN5 (T0 : Array Value) (hsz : 157 ≤ T0.size) (u0 u1 u2 u3 u4 : Value) : (putAll T0 [25, 26, 27, 28, 29] [u0, u1, u2, u3, u4])[29]? = some u4 ∧ (putAll T0 [25, 26, 27, 28, 29] [u0, u1, u2, u3, u4])[28]? = some u3 := by
  simp only [putAll]
  refine ⟨?_, ?_⟩ <;> simp [Array.getElem?_setIfInBounds] <;> omega
theorem opregN5 {o : Oper} (ho : (opsOfN 5)[5]? = some o) : o.op = .store 33 (.tmp 29) (.tmp 28) := opAtA ho (by kernel_rfl)
theorem guregN5 {o : Oper} (ho : (opsOfN 5)[5]? = some o) : o.guard = none := guardAtA ho (by kernel_rfl)
theorem dsregN5 {o : Oper} (ho : (opsOfN 5)[5]? = some o) : o.dst = none := dstAtA ho (by kernel_rfl)
theorem regN5 {id : Nat} {ops : Array Oper} (hops : ops = opsOfN 5) (T0 : Array Value) (hsz : 157 ≤ T0.size) (W : World) (gA gT c k : Nat) (hk : k < 6) (hA : T0[1]? = some (.pointer (some ⟨gA, 0, none⟩))) (h2 : T0[2]? = some (.int .i64 k)) (hbox : ∀ w, Below W.heap.size W w → w.cell? ⟨gA, 4, none⟩ = some (.slice (some ⟨gT, 0, none⟩) 6 c)) (hcell : ∀ w, Below W.heap.size W w → (∃ u, w.cell? ⟨gT, k, none⟩ = some u) ∧ w.frozen? ⟨gT, k, none⟩ = false) {Q : Exit → Act → World → Prop}
    (hend : ∀ (g : Nat) (w : World), Below W.heap.size W w → W.heap.size ≤ g → w.heap[g]? = some (.cells (List.replicate 6 (Value.slice none 0 0)).toArray 34 (0, 0)) → Q .normal ⟨putAll T0 [25, 26, 27, 28, 29] [.pointer (some ⟨gA, 4, none⟩), .slice (some ⟨gT, 0, none⟩) 6 c, .int .i64 k, .slice (some ⟨g, 0, none⟩) 6 6, .pointer (some ⟨gT, k, none⟩)], []⟩ (w.setCell ⟨gT, k, none⟩ (.slice (some ⟨g, 0, none⟩) 6 6))) :
    (Code.region id ops true).wp Tryd.prog Q ⟨T0, []⟩ W := by
  subst hops
  have hos : (opsOfN 5).size = 6 := by kernel_rfl
  refine wp_region_tail (regN5K W gA gT c k) [25, 26, 27, 28, 29] W T0 (by decide) (fun x hx => ?_) (by kernel_rfl) (by kernel_rfl) (fun i x y v w w' _ hy b h => regN5K.mono i x y v w w' hy b h) ?_ ?_
  · simp at hx
    omega
  · intro i o ho hi4 a w hT hdone hlow K hK
    have hwait : ∀ j, waitsA (opsOfN 5) i j = true → ∃ v x y, a.tmps[([25, 26, 27, 28, 29] : List Nat).getD j 0]? = some v ∧ regN5K W gA gT c k j x y v w := fun j hj => waitsA_of (P := fun j => ∃ v x y, a.tmps[([25, 26, 27, 28, 29] : List Nat).getD j 0]? = some v ∧ regN5K W gA gT c k j x y v w) ho hdone hj
    match i, hi4 with
    | 0, _ => exact nm_field 1 gA (opAtA ho (by kernel_rfl)) (getD_frame ((hT 1 (by decide)).trans hA)) (hK _ w (Below.refl _ _) rfl)
    | 1, _ =>
      obtain ⟨v0, x0, y0, e0, rfl⟩ := hwait 0 (by kernel_rfl)
      exact nm_load 25 gA (opAtA ho (by kernel_rfl)) (getD_frame e0) (hbox w hlow) (hK _ w (Below.refl _ _) rfl)
    | 2, _ => exact nm_move 2 (opAtA ho (by kernel_rfl)) (getD_frame ((hT 2 (by decide)).trans h2)) (hK _ w (Below.refl _ _) rfl)
    | 3, _ => exact nm_make (z := .slice none 0 0) (bytes := 24) Tryd.underlying33 (by kernel_rfl) 6 (by decide) (by decide) 6 rfl (by kernel_rfl) (opAtA ho (by kernel_rfl)) fun w' h1 h2 h3 => hK _ w' h2 (rowK_new (tS := 33) hlow.size h1 h3)
    | 4, _ =>
      obtain ⟨v1, x1, y1, e1, rfl⟩ := hwait 1 (by kernel_rfl)
      obtain ⟨v2, x2, y2, e2, rfl⟩ := hwait 2 (by kernel_rfl)
      exact nm_index 26 27 gT k (opAtA ho (by kernel_rfl)) (getD_frame e1) (getD_frame e2) hk (by decide) (hK _ w (Below.refl _ _) rfl)
  · intro us lo' hi' w hu hlow hS hdj
    match us, hu with
    | [u0, u1, u2, u3, u4], _ =>
      have e0 : u0 = _ := (hS 0 (by decide)).2.2.2
      have e1 : u1 = _ := (hS 1 (by decide)).2.2.2
      have e2 : u2 = _ := (hS 2 (by decide)).2.2.2
      obtain ⟨q1, _, _, g, e3, q2, q3, q4, q5⟩ := hS 3 (by decide)
      replace e3 : u3 = _ := e3
      have e4 : u4 = _ := (hS 4 (by decide)).2.2.2
      obtain ⟨f1, f2⟩ := frameregN5 T0 hsz u0 u1 u2 u3 u4
      replace f1 := f1.trans (congrArg some e4)
      replace f2 := f2.trans (congrArg some e3)
      have t1 := getD_frame6 f1
      have t2 := getD_frame6 f2
      obtain ⟨u, hu⟩ := (hcell w hlow).1
      obtain ⟨o4, h4⟩ : ∃ o, (opsOfN 5)[5]? = some o := ⟨_, Array.getElem?_eq_getElem (by omega)⟩
      rw [show ([25, 26, 27, 28, 29] : List Nat).length = 5 from rfl]
      refine wpList_step h4 (guregN5 h4) ?_
      refine nm_store (B := some ⟨g, 0, none⟩) (n := 6) (c := 6) 29 28 gT k (opregN5 h4) ?_ ?_ hu (hcell w hlow).2 ?_
      · dsimp only
        exact t1
      · dsimp only
        exact t2
      rw [dsregN5 h4]
      dsimp only [Act.put]
      rw [show (opsOfN 5).toList.drop (5 + 1) = [] from List.drop_eq_nil_of_le (by simp [hos])]
      have hres := hend g w hlow q2 q5
      rw [wpList]
      rw [e0, e1, e2, e3, e4]
      exact hres
def regN33K (W : World) (gA gT c k : Nat) : Nat → Nat → Nat → Value → World → Prop
  | 0, lo, hi, v, w => v = .pointer (some ⟨gA, 4, none⟩)
  | 1, lo, hi, v, w => v = .slice (some ⟨gT, 0, none⟩) 6 c
  | 2, lo, hi, v, w => RowK 34 7 (.slice none 0 0) W.heap.size lo hi v w
  | 3, lo, hi, v, w => v = .pointer (some ⟨gT, 2, none⟩)
  | _, _, _, _, _ => False
theorem regN33K.mono {W : World} {gA gT c k : Nat} (i x y : Nat) (v : Value) (w w' : World) (hy : y ≤ w.heap.size) (b : Below w.heap.size w w') (h : regN33K W gA gT c k i x y v w) : regN33K W gA gT c k i x y v w' := by
  match i, h with
  | 0, h => exact h
  | 1, h => exact h
  | 2, h => exact RowK.mono hy b h
  | 3, h => exact h
  | _ + 4, h => exact h.elim
theorem frameregN33 (T0 : Array Value) (hsz : 157 ≤ T0.size) (u0 u1 u2 u3 : Value) : (putAll T0 [72, 73, 74, 75] [u0, u1, u2, u3])[75]? = some u3 ∧ (putAll T0 [72, 73, 74, 75] [u0, u1, u2, u3])[74]? = some u2 := by
  simp only [putAll]
  refine ⟨?_, ?_⟩ <;> simp [Array.getElem?_setIfInBounds] <;> omega
theorem opregN33 {o : Oper} (ho : (opsOfN 33)[4]? = some o) : o.op = .store 33 (.tmp 75) (.tmp 74) := opAtA ho (by kernel_rfl)
theorem guregN33 {o : Oper} (ho : (opsOfN 33)[4]? = some o) : o.guard = none := guardAtA ho (by kernel_rfl)
theorem dsregN33 {o : Oper} (ho : (opsOfN 33)[4]? = some o) : o.dst = none := dstAtA ho (by kernel_rfl)
theorem regN33 {id : Nat} {ops : Array Oper} (hops : ops = opsOfN 33) (T0 : Array Value) (hsz : 157 ≤ T0.size) (W : World) (gA gT c k : Nat) (hk : k < 6) (hA : T0[5]? = some (.pointer (some ⟨gA, 0, none⟩))) (hbox : ∀ w, Below W.heap.size W w → w.cell? ⟨gA, 4, none⟩ = some (.slice (some ⟨gT, 0, none⟩) 6 c)) (hcell : ∀ w, Below W.heap.size W w → (∃ u, w.cell? ⟨gT, 2, none⟩ = some u) ∧ w.frozen? ⟨gT, 2, none⟩ = false) {Q : Exit → Act → World → Prop}
    (hend : ∀ (g : Nat) (w : World), Below W.heap.size W w → W.heap.size ≤ g → w.heap[g]? = some (.cells (List.replicate 7 (Value.slice none 0 0)).toArray 34 (0, 0)) → Q .normal ⟨putAll T0 [72, 73, 74, 75] [.pointer (some ⟨gA, 4, none⟩), .slice (some ⟨gT, 0, none⟩) 6 c, .slice (some ⟨g, 0, none⟩) 7 7, .pointer (some ⟨gT, 2, none⟩)], []⟩ (w.setCell ⟨gT, 2, none⟩ (.slice (some ⟨g, 0, none⟩) 7 7))) :
    (Code.region id ops true).wp Tryd.prog Q ⟨T0, []⟩ W := by
  subst hops
  have hos : (opsOfN 33).size = 5 := by kernel_rfl
  refine wp_region_tail (regN33K W gA gT c k) [72, 73, 74, 75] W T0 (by decide) (fun x hx => ?_) (by kernel_rfl) (by kernel_rfl) (fun i x y v w w' _ hy b h => regN33K.mono i x y v w w' hy b h) ?_ ?_
  · simp at hx
    omega
  · intro i o ho hi4 a w hT hdone hlow K hK
    have hwait : ∀ j, waitsA (opsOfN 33) i j = true → ∃ v x y, a.tmps[([72, 73, 74, 75] : List Nat).getD j 0]? = some v ∧ regN33K W gA gT c k j x y v w := fun j hj => waitsA_of (P := fun j => ∃ v x y, a.tmps[([72, 73, 74, 75] : List Nat).getD j 0]? = some v ∧ regN33K W gA gT c k j x y v w) ho hdone hj
    match i, hi4 with
    | 0, _ => exact nm_field 5 gA (opAtA ho (by kernel_rfl)) (getD_frame ((hT 5 (by decide)).trans hA)) (hK _ w (Below.refl _ _) rfl)
    | 1, _ =>
      obtain ⟨v0, x0, y0, e0, rfl⟩ := hwait 0 (by kernel_rfl)
      exact nm_load 72 gA (opAtA ho (by kernel_rfl)) (getD_frame e0) (hbox w hlow) (hK _ w (Below.refl _ _) rfl)
    | 2, _ => exact nm_make (z := .slice none 0 0) (bytes := 24) Tryd.underlying33 (by kernel_rfl) 7 (by decide) (by decide) 7 rfl (by kernel_rfl) (opAtA ho (by kernel_rfl)) fun w' h1 h2 h3 => hK _ w' h2 (rowK_new (tS := 33) hlow.size h1 h3)
    | 3, _ =>
      obtain ⟨v1, x1, y1, e1, rfl⟩ := hwait 1 (by kernel_rfl)
      exact nm_indexc 73 gT (opAtA ho (by kernel_rfl)) (getD_frame e1) (hK _ w (Below.refl _ _) rfl)
  · intro us lo' hi' w hu hlow hS hdj
    match us, hu with
    | [u0, u1, u2, u3], _ =>
      have e0 : u0 = _ := (hS 0 (by decide)).2.2.2
      have e1 : u1 = _ := (hS 1 (by decide)).2.2.2
      obtain ⟨q1, _, _, g, e2, q2, q3, q4, q5⟩ := hS 2 (by decide)
      replace e2 : u2 = _ := e2
      have e3 : u3 = _ := (hS 3 (by decide)).2.2.2
      obtain ⟨f1, f2⟩ := frameregN33 T0 hsz u0 u1 u2 u3
      replace f1 := f1.trans (congrArg some e3)
      replace f2 := f2.trans (congrArg some e2)
      have t1 := getD_frame6 f1
      have t2 := getD_frame6 f2
      obtain ⟨u, hu⟩ := (hcell w hlow).1
      obtain ⟨o4, h4⟩ : ∃ o, (opsOfN 33)[4]? = some o := ⟨_, Array.getElem?_eq_getElem (by omega)⟩
      rw [show ([72, 73, 74, 75] : List Nat).length = 4 from rfl]
      refine wpList_step h4 (guregN33 h4) ?_
      refine nm_store (B := some ⟨g, 0, none⟩) (n := 7) (c := 7) 75 74 gT 2 (opregN33 h4) ?_ ?_ hu (hcell w hlow).2 ?_
      · dsimp only
        exact t1
      · dsimp only
        exact t2
      rw [dsregN33 h4]
      dsimp only [Act.put]
      rw [show (opsOfN 33).toList.drop (4 + 1) = [] from List.drop_eq_nil_of_le (by simp [hos])]
      have hres := hend g w hlow q2 q5
      rw [wpList]
      rw [e0, e1, e2, e3]
      exact hres
end Go.Proofs.YtnkdaehmdcpafaaDoor
