/-
  PACKAGE event's Show: its drawn region that lays the first two words. Conditions: as they stand.
-/
import Derived.Test.YtfbnigikofidoaaDoorWj
import Derived.Test.YtfbnigikofidoaaDoorWk
import Derived.RangeFuncBox
namespace Go.Proofs.YtfbnigikofidoaaDoor
set_option maxRecDepth 100000
open Go.RowKit Go.Shelf
set_option linter.unusedVariables false
section
variable {a : Act} {w : World} {K : Act → World → Prop} {Q : Exit → Act → World → Prop} {o : Oper}
theorem s_field (x k : Nat) (hk : k = 0 ∨ k = 1) {N : Nat} (ho : o.op = .fieldAddr 23 (.tmp x) k) (hx : a.tmps[x]?.getD undef = .pointer (some ⟨N, 0, none⟩)) (hK : K (a.put o.dst (.pointer (some ⟨N, k, none⟩))) w) : Oper.wp Tryd.prog o a w K Q := by
  obtain ⟨dst, op, type, pos, after, guard⟩ := o
  have ho' : op = _ := ho
  subst ho'
  clear ho
  rcases hk with rfl | rfl <;>
  · go_simp
    exact hK
theorem s_loadI (x : Nat) {q : Addr} {n : Int} (ho : o.op = .load 3 (.tmp x)) (hx : a.tmps[x]?.getD undef = .pointer (some q)) (hc : w.cell? q = some (.int .i64 n)) (hK : K (a.put o.dst (.int .i64 n)) w) : Oper.wp Tryd.prog o a w K Q := by
  obtain ⟨dst, op, type, pos, after, guard⟩ := o
  have ho' : op = _ := ho
  subst ho'
  clear ho
  go_simp
  exact hK
theorem s_loadB (x : Nat) {q : Addr} {n : Int} (ho : o.op = .load 5 (.tmp x)) (hx : a.tmps[x]?.getD undef = .pointer (some q)) (hc : w.cell? q = some (.int .u8 n)) (hK : K (a.put o.dst (.int .u8 n)) w) : Oper.wp Tryd.prog o a w K Q := by
  obtain ⟨dst, op, type, pos, after, guard⟩ := o
  have ho' : op = _ := ho
  subst ho'
  clear ho
  go_simp
  exact hK
theorem s_itoa (x : Nat) (i : Nat) (hi : i < 100) (ho : o.op = .call { callee := .value (.func 10), args := #[.tmp x], argTypes := #[3] }) (hx : a.tmps[x]?.getD undef = .int .i64 i) (hK : K (a.put o.dst (.string (bsW (Lib.decDigits i)))) w) : Oper.wp Tryd.prog o a w K Q := by
  obtain ⟨dst, op, type, pos, after, guard⟩ := o
  have ho' : op = _ := ho
  subst ho'
  clear ho
  have hr := lib_itoa i hi w
  have h1 := Tryd.func10
  go_simp
  refine hr.mono ?_
  rintro e w' ⟨rfl, rfl⟩
  exact hK
theorem s_name (x : Nat) (k : Nat) (hk : k < 256) (he : Ek w) (ho : o.op = .call { callee := .value (.func 11), args := #[.tmp x], argTypes := #[5] }) (hx : a.tmps[x]?.getD undef = .int .u8 k) (hK : K (a.put o.dst (.string (bsW (nmL k)))) w) : Oper.wp Tryd.prog o a w K Q := by
  obtain ⟨dst, op, type, pos, after, guard⟩ := o
  have ho' : op = _ := ho
  subst ho'
  clear ho
  have hr := name_any k hk w he
  have h1 := Tryd.func11
  go_simp
  refine hr.mono ?_
  rintro e w' ⟨rfl, rfl⟩
  exact hK
theorem s_sl2 (x y : Nat) {p q : ByteArray} (ho : o.op = .buildSlice 31 2 #[(0, .tmp x), (1, .tmp y)]) (hx : a.tmps[x]?.getD undef = .string p) (hy : a.tmps[y]?.getD undef = .string q) (hK : ∀ w', Below w.heap.size w w' → w.heap.size < w'.heap.size → w'.heap[w.heap.size]? = some (.cells #[.string p, .string q] 9 (0, 0)) → K (a.put o.dst (.slice (some ⟨w.heap.size, 0, none⟩) 2 2)) w') : Oper.wp Tryd.prog o a w K Q := by
  obtain ⟨dst, op, type, pos, after, guard⟩ := o
  have ho' : op = _ := ho
  subst ho'
  clear ho
  have h2 := hK (w.alloc (.cells #[.string p, .string q] 9)) ((Below.refl _ _).alloc (Nat.le_refl _) _) (by simp) (World.alloc_heap_new w _)
  clear hK
  go_simp
  exact h2
theorem s_alloc (ho : o.op = .alloc 31) (hK : ∀ w', Below w.heap.size w w' → w.heap.size < w'.heap.size → w'.heap[w.heap.size]? = some (.cells #[.slice none 0 0] 31 (0, 0)) → K (a.put o.dst (.pointer (some ⟨w.heap.size, 0, none⟩))) w') : Oper.wp Tryd.prog o a w K Q := by
  obtain ⟨dst, op, type, pos, after, guard⟩ := o
  have ho' : op = _ := ho
  subst ho'
  clear ho
  have h2 := hK (w.alloc (.cells #[.slice none 0 0] 31)) ((Below.refl _ _).alloc (Nat.le_refl _) _) (by simp) (World.alloc_heap_new w _)
  clear hK
  go_simp
  exact h2
theorem s_store (x y : Nat) {q : Addr} {A : Option Addr} {n c : Nat} {u : Value} (ho : o.op = .store 31 (.tmp x) (.tmp y)) (hx : a.tmps[x]?.getD undef = .pointer (some q)) (hy : a.tmps[y]?.getD undef = .slice A n c) (hc : w.cell? q = some u) (hf : w.frozen? q = false) (hK : K (a.put o.dst undef) (w.setCell q (.slice A n c))) : Oper.wp Tryd.prog o a w K Q := by
  obtain ⟨dst, op, type, pos, after, guard⟩ := o
  have ho' : op = _ := ho
  subst ho'
  clear ho
  go_simp
  exact hK
end
/-- What each operation of the region leaves. -/
def S3 (e : Ev) (N : Nat) : Nat → Nat → Nat → Value → World → Prop
  | 0, _, _, v, _ => v = .pointer (some ⟨N, 1, none⟩)
  | 1, _, _, v, _ => v = .int .i64 e.th
  | 2, _, _, v, _ => v = .string (bsW (Lib.decDigits e.th.toNat))
  | 3, _, _, v, _ => v = .pointer (some ⟨N, 0, none⟩)
  | 4, _, _, v, _ => v = .int .u8 e.kd
  | 5, _, _, v, _ => v = .string (bsW (nmL e.kd.toNat))
  | 6, lo, hi, v, w => ∃ g, v = .slice (some ⟨g, 0, none⟩) 2 2 ∧ lo ≤ g ∧ g < hi ∧ w.heap[g]? = some (.cells #[.string (bsW (Lib.decDigits e.th.toNat)), .string (bsW (nmL e.kd.toNat))] 9 (0, 0))
  | 7, lo, hi, v, w => ∃ g, v = .pointer (some ⟨g, 0, none⟩) ∧ lo ≤ g ∧ g < hi ∧ w.heap[g]? = some (.cells #[.slice none 0 0] 31 (0, 0))
  | _, _, _, _, _ => False
theorem S3.mono {e : Ev} {N : Nat} (i x y : Nat) (v : Value) (w w' : World) (hy : y ≤ w.heap.size) (b : Below w.heap.size w w') (h : S3 e N i x y v w) : S3 e N i x y v w' := by
  match i, h with
  | 0, h | 1, h | 2, h | 3, h | 4, h | 5, h => exact h
  | 6, h =>
    obtain ⟨g, h1, h2, h3, h4⟩ := h
    exact ⟨g, h1, h2, h3, (b.block g (by omega)).trans h4⟩
  | 7, h =>
    obtain ⟨g, h1, h2, h3, h4⟩ := h
    exact ⟨g, h1, h2, h3, (b.block g (by omega)).trans h4⟩
  | i + 8, h => exact h.elim
noncomputable def opsS3 : Array Oper := opsW Tryd.f5 3
def dsS3 : List Nat := [10, 11, 12, 13, 14, 15, 16, 4]
set_option maxRecDepth 100000 in
set_option maxHeartbeats 4000000 in
theorem regS3 {id : Nat} {ops : Array Oper} (hops : ops = opsS3) (T0 : Array Value) (hsz : 34 ≤ T0.size) (W : World) (e : Ev) (N : Nat) (h1 : T0[1]? = some (.pointer (some ⟨N, 0, none⟩))) (hN : W.heap[N]? = some (.cells (evC e) 23 (0, 0))) (t0 : 0 ≤ e.th) (t1 : e.th < 100) (k0 : 0 ≤ e.kd) (k1 : e.kd < 256) (he : Ek W) {Q : Exit → Act → World → Prop}
    (hend : ∀ (us : List Value) (g4 g : Nat) (w : World), us.length = 8 → Below W.heap.size W w → W.heap.size ≤ g4 → W.heap.size ≤ g → _root_.Go.Boxed w g4 31 (.slice (some ⟨g, 0, none⟩) 2 2) → w.heap[g]? = some (.cells #[.string (bsW (Lib.decDigits e.th.toNat)), .string (bsW (nmL e.kd.toNat))] 9 (0, 0)) → us.getD 7 undef = .pointer (some ⟨g4, 0, none⟩) → Q .normal ⟨putAll T0 dsS3 us, []⟩ w) :
    (Code.region id ops true).wp Tryd.prog Q ⟨T0, []⟩ W := by
  subst hops
  have hos : opsS3.size = 9 := by kernel_rfl
  have hNl := (Array.getElem?_eq_some_iff.1 hN).1
  refine wp_region_tail (S3 e N) dsS3 W T0 (by decide) (fun x hx => ?_) (by kernel_rfl) (by kernel_rfl) (fun i x y v w w' hb hy b h => S3.mono i x y v w w' hy b h) ?_ ?_
  · have hall : (dsS3.all fun d => decide (d < 34)) = true := by decide
    have := List.all_eq_true.1 hall x hx
    simp only [decide_eq_true_eq] at this
    omega
  · intro i o ho hi a w hT hdep hb K hK
    have hw : ∀ j, waitsW opsS3 i j = true → ∃ v x y, a.tmps[dsS3.getD j 0]? = some v ∧ S3 e N j x y v w := fun j hj => waitsW_of (P := fun j => ∃ v x y, a.tmps[dsS3.getD j 0]? = some v ∧ S3 e N j x y v w) ho hdep hj
    have hT0 : ∀ t v, t ∉ dsS3 → T0[t]? = some v → a.tmps[t]?.getD undef = v := fun t v ht hv => by
      rw [hT t ht, hv]
      rfl
    have hcell : ∀ (j : Nat) (u : Value), (evC e)[j]? = some u → w.cell? ⟨N, j, none⟩ = some u := fun j u hu => (cell_of_row w N j _ _ _ ((hb.block N hNl).trans hN)).trans hu
    match i, hi with
    | 0, _ => exact s_field 1 1 (.inr rfl) (opAtW ho (by kernel_rfl)) (hT0 1 _ (by decide) h1) (hK _ _ (Below.refl _ _) rfl)
    | 1, _ =>
      obtain ⟨v0, _, _, e0, s0⟩ := hw 0 (by kernel_rfl)
      exact s_loadI 10 (opAtW ho (by kernel_rfl)) (hV e0 s0) (hcell 1 _ rfl) (hK _ _ (Below.refl _ _) rfl)
    | 2, _ =>
      obtain ⟨v0, _, _, e0, s0⟩ := hw 1 (by kernel_rfl)
      exact s_itoa 11 e.th.toNat (by omega) (opAtW ho (by kernel_rfl)) (hV e0 (s0.trans (by rw [Int.toNat_of_nonneg t0]))) (hK _ _ (Below.refl _ _) rfl)
    | 3, _ => exact s_field 1 0 (.inl rfl) (opAtW ho (by kernel_rfl)) (hT0 1 _ (by decide) h1) (hK _ _ (Below.refl _ _) rfl)
    | 4, _ =>
      obtain ⟨v0, _, _, e0, s0⟩ := hw 3 (by kernel_rfl)
      exact s_loadB 13 (opAtW ho (by kernel_rfl)) (hV e0 s0) (hcell 0 _ rfl) (hK _ _ (Below.refl _ _) rfl)
    | 5, _ =>
      obtain ⟨v0, _, _, e0, s0⟩ := hw 4 (by kernel_rfl)
      exact s_name 14 e.kd.toNat (by omega) (he.below hb) (opAtW ho (by kernel_rfl)) (hV e0 (s0.trans (by rw [Int.toNat_of_nonneg k0]))) (hK _ _ (Below.refl _ _) rfl)
    | 6, _ =>
      obtain ⟨v0, _, _, e0, s0⟩ := hw 2 (by kernel_rfl)
      obtain ⟨v1, _, _, e1, s1⟩ := hw 5 (by kernel_rfl)
      exact s_sl2 12 15 (opAtW ho (by kernel_rfl)) (hV e0 s0) (hV e1 s1) (fun w' b hl hh => hK _ w' b ⟨_, rfl, Nat.le_refl _, hl, hh⟩)
    | 7, _ => exact s_alloc (opAtW ho (by kernel_rfl)) (fun w' b hl hh => hK _ w' b ⟨_, rfl, Nat.le_refl _, hl, hh⟩)
    | i + 8, h => exact absurd (show i + 8 < 8 from h) (by omega)
  · intro us lo hi w hu hb hS hdj
    obtain ⟨g, hg1, hg2, hg3, hg4⟩ := (hS 6 (by decide)).2.2.2
    obtain ⟨g4, hk1, hk2, hk3, hk4⟩ := (hS 7 (by decide)).2.2.2
    have hne : g ≠ g4 := by
      rintro rfl
      have h5 := Option.some.inj (hg4.symm.trans hk4)
      injection h5 with _ h6
      exact absurd h6 (by decide)
    have t4 : (putAll T0 dsS3 us)[4]? = some (us.getD 7 undef) := by
      have := putAll_at T0 dsS3 us 7 (by decide) hu.symm (by decide) (by show 4 < T0.size; omega)
      rw [List.getD_eq_getElem?_getD]
      have h42 : 7 < us.length := by rw [hu]; decide
      rw [List.getElem?_eq_getElem h42] at this ⊢
      exact this
    have t16 : (putAll T0 dsS3 us)[16]? = some (us.getD 6 undef) := by
      have := putAll_at T0 dsS3 us 6 (by decide) hu.symm (by decide) (by show 16 < T0.size; omega)
      rw [List.getD_eq_getElem?_getD]
      have h42 : 6 < us.length := by rw [hu]; decide
      rw [List.getElem?_eq_getElem h42] at this ⊢
      exact this
    obtain ⟨o, k1⟩ : ∃ o, opsS3[8]? = some o := ⟨_, Array.getElem?_eq_getElem (by omega)⟩
    rw [show dsS3.length = 8 from rfl]
    have bk : _root_.Go.Boxed w g4 31 (.slice none 0 0) := hk4
    refine wpListW k1 (guardW k1 (by kernel_rfl)) (s_store 4 16 (opAtW k1 (by kernel_rfl)) (hV t4 hk1) (hV t16 hg1) bk.cell bk.frozen ?_)
    rw [dstW k1 (x := none) (by kernel_rfl)]
    rw [show opsS3.toList.drop (8 + 1) = [] from List.drop_eq_nil_of_le (by simp [hos]), wpList]
    have l7 := (hS 7 (by decide)).1
    have l6 := (hS 6 (by decide)).1
    exact hend us g4 g _ hu (hb.setCell (p := ⟨g4, 0, none⟩) (by show W.heap.size ≤ g4; omega) _) (by omega) (by omega) (bk.set _) ((heap_setCell_other _ ⟨g4, 0, none⟩ _ _ hne).trans hg4) hk1
end Go.Proofs.YtfbnigikofidoaaDoor
