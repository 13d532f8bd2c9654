/-
  WORDS FOR A COPY: trees appended one by one to a row of the call's own: how things are behind k parts, and what lies there at the end. Conditions: as they stand.
-/
import Derived.Test.YthdcdffdpdoeoaaGreatDoorEb
import Derived.Deep.AppendLies
import Derived.Deep.RegionLaw
namespace Go.Proofs.YthdcdffdpdoeoaaGreatDoor
set_option maxRecDepth 100000
open Go.RowKit
set_option linter.unusedVariables false
theorem expr_info : (Tryz.prog.info? 40).map (fun i => (i.zero, i.size, i.bytes)) = some (some (.agg #[.int .u8 0, .int .i64 0, .slice none 0 0]), 3, 40) := by kernel_rfl

theorem boxed_b (w : World) (x y z : Value) : Below w.heap.size w (w.alloc (.cells #[x, y, z] 40)) := by go_grown
theorem At.cnt_pos {w : World} {lo hi : Nat} (d : Nat) {v : Value} {e : Ex} (h : At w lo hi d v e) : 1 ≤ cnt d e := by
  cases d with
  | zero => exact h.elim
  | succ d =>
    obtain ⟨op, n, args⟩ := e
    rw [cnt]
    omega
theorem Kids.pos {w : World} {lo hi d : Nat} {A : Option Addr} {args : List Ex} (h : Kids w lo hi d A args) : ∀ e ∈ args, 1 ≤ cnt d e := by
  intro e he
  obtain ⟨k, hk, rfl⟩ := List.getElem_of_mem he
  obtain ⟨a, x, y, z, rfl, m1, m2, g0, g1, g2, hA⟩ := h k hk
  exact hA.cnt_pos
theorem len_sum {f : Ex → Nat} (l : List Ex) (h : ∀ e ∈ l, 1 ≤ f e) : l.length ≤ (l.map f).sum := by
  induction l with
  | nil => simp
  | cons e r ih =>
    have := ih fun x hx => h x (List.mem_cons_of_mem _ hx)
    have := h e (List.mem_cons_self ..)
    rw [List.map_cons, List.sum_cons, List.length_cons]
    omega
theorem boxed_at {w : World} {lo hi d : Nat} {v : Value} {e : Ex} (h : At w lo hi d v e) : ∃ x y z, v = .agg #[x, y, z] := by
  cases d with
  | zero => exact h.elim
  | succ d =>
    obtain ⟨op, n, args⟩ := e
    obtain ⟨q1, q2, q3, q4, A, c, rfl, hk⟩ := h.open_
    exact ⟨_, _, _, rfl⟩
theorem one5 {w : World} {lo hi d : Nat} {x y z : Value} {e : Ex} (h : At w lo hi d (.agg #[x, y, z]) e) : ∀ u ∈ [x, y, z], u.oneCell' = true := by
  cases d with
  | zero => exact h.elim
  | succ d =>
    obtain ⟨op, n, args⟩ := e
    obtain ⟨q1, q2, q3, q4, A, c, hv, hk⟩ := h.open_
    simp only [Value.agg.injEq, Array.mk.injEq, List.cons.injEq, and_true] at hv
    obtain ⟨rfl, rfl, rfl⟩ := hv
    simp [Value.oneCell']
theorem own5 {w w5 : World} {base : Nat} {e : TypeId} {size n : Nat} {v : Value} {xs : List Value} (h : w.ownsRow base e size v n xs) (b5 : Below w.drew.heap.size w.drew w5) : w5.ownsRow base e size v n xs :=
  h.kept (row := none) ⟨b5.os, b5.tape, b5.output, b5.size, fun i hi _ => b5.block i hi⟩ (by cases hv : v.ownBlock <;> simp)
theorem size5 {w w5 : World} {B : Nat} {o : Obj} (h : B ≤ w.heap.size) (b5 : Below w.drew.heap.size w.drew w5) : B ≤ (w5.alloc o).heap.size := by
  have := b5.size
  simp at this ⊢
  omega
theorem own_ge {w : World} {base : Nat} {e : TypeId} {size n : Nat} {v : Value} {xs : List Value} (h : w.ownsRow base e size v n xs) {b : Nat} (hb : b < base) : some b ≠ v.ownBlock := by
  intro hc
  have := h.lt b hc.symm
  omega
theorem size6 {w w5 : World} {B : Nat} (h : B ≤ w.heap.size) (b5 : Below w.drew.heap.size w.drew w5) : B ≤ w5.heap.size := by
  have := b5.size
  simp at this
  omega
theorem low_grown {w w5 w1 : World} {B base : Nat} {e : TypeId} {size n : Nat} {v : Value} {xs : List Value} {o : Obj} (h : Below B w w5) (hz : B ≤ w5.heap.size) (own : w.ownsRow base e size v n xs) (hb : B ≤ base) (hg : (w5.alloc o).grownBy w1 v.ownBlock) : Below B w w1 :=
  ⟨hg.os.trans h.os, hg.tape.trans h.tape, hg.output.trans h.output, by have := hg.size; have := h.size; simp at *; omega, fun i hi => (hg.block i (by simp; omega) (by
    intro hc
    have := own.lt i hc.symm
    omega)).trans ((heap_alloc_old w5 o (by omega)).trans (h.block i hi))⟩
theorem far_free {w w5 w1 : World} {H0 : Nat} {e t : TypeId} {size n : Nat} {v : Value} {xs : List Value} {o : Obj} {cs : Array Value} (hz : H0 + 3 ≤ w5.heap.size) (own : w.ownsRow (H0 + 3) e size v n xs) (hb : w.heap[H0 + 2]? = some (.cells cs t (0, 0)))
    (b5 : Below w.drew.heap.size w.drew w5) (hg : (w5.alloc o).grownBy w1 v.ownBlock) : w1.frozen? ⟨H0 + 1 + 1, 2, none⟩ = false := by
  have h1 : w1.heap[H0 + 2]? = some (.cells cs t (0, 0)) := by
    rw [hg.block (H0 + 2) (by simp; omega) (fun hc => by have := own.lt _ hc.symm; omega), heap_alloc_old w5 o (by omega), b5.block (H0 + 2) (by simpa using lt_of_block hb)]
    exact hb
  simp [World.frozen?, h1]
theorem low_grown3 {w w5 w1 : World} {H0 : Nat} {e : TypeId} {size n : Nat} {v : Value} {xs : List Value} {o : Obj} (h : Below (H0 + 1) w w5) (hz : H0 + 3 ≤ w5.heap.size) (own : w.ownsRow (H0 + 3) e size v n xs) (hg : (w5.alloc o).grownBy w1 v.ownBlock) : Below (H0 + 1) w w1 :=
  low_grown h (by omega) own (by omega) hg
theorem far_cell3 {w w5 w1 : World} {H0 : Nat} {e : TypeId} {size n : Nat} {v u : Value} {xs : List Value} {o : Obj} (hz : H0 + 3 ≤ w5.heap.size) (own : w.ownsRow (H0 + 3) e size v n xs) (hg : (w5.alloc o).grownBy w1 v.ownBlock) (hc : (w5.alloc o).cell? ⟨H0 + 1 + 1, 2, none⟩ = some u) : w1.cell? ⟨H0 + 1 + 1, 2, none⟩ = some u :=
  (hg.cell_far ⟨H0 + 1 + 1, 2, none⟩ (by show H0 + 1 + 1 < _; simp; omega) (own_ge own (by show H0 + 1 + 1 < _; omega))).trans hc
/-- The append of one tree. -/
theorem append_tree {w w5 : World} {base : Nat} {sv : Value} {k : Nat} {xs : List Value} {lo hi d : Nat} {x5 y5 z5 : Value} {e : Ex} {ops : Array Oper} {o : Oper} {a : Act} {K : Act → World → Prop} {Q : Exit → Act → World → Prop} {E : Prop}
    (own : w.ownsRow base 40 3 sv k xs) (hb : base ≤ w.heap.size) (hk : k ≤ 100000) (b5 : Below w.drew.heap.size w.drew w5) (hA : At w5 lo hi d (.agg #[x5, y5, z5]) e)
    (hgd : o.guard = none) (s x : Operand) (ho : o.op = .call { callee := .builtin .append, args := #[s, x], argTypes := #[38, 38] }) (hs : a.eval s = sv) (hx : a.eval x = .slice (some ⟨w5.heap.size, 0, none⟩) 1 1)
    (h : ∀ g cap w', w'.ownsRow base 40 3 (.slice (some ⟨g, 0, none⟩) (k + 1) cap) (k + 1) (xs ++ [x5, y5, z5]) → (w5.alloc (.cells #[x5, y5, z5] 40)).grownBy w' sv.ownBlock → (sv.ownBlock = some g ∨ g = w5.heap.size + 1) → g < w'.heap.size → K (a.put o.dst (.slice (some ⟨g, 0, none⟩) (k + 1) cap)) w') :
    if Region.wanted o (yielded ops a.tmps) = true then Oper.wp Tryz.prog o a (w5.alloc (.cells #[x5, y5, z5] 40)) K Q else E := by
  obtain ⟨i0, hi0, hz0, hz1, hz2⟩ := info_parts expr_info
  have zz5 : (w5.alloc (.cells #[x5, y5, z5] 40)).heap.size = w5.heap.size + 1 := by simp
  exact step_append_lies _ hgd s x _ ho base 40 i0 _ 3 40 Tryz.underlying38 hi0 hz0 hz1 hz2 rfl (by omega) sv k xs hs ((own5 own b5).alloc (.cells #[x5, y5, z5] 40)) ⟨w5.heap.size, 0, none⟩ 1 1 [x5, y5, z5] hx rfl (World.news_of_block (cs := #[x5, y5, z5]) (t := 40) (fr := (0, 0)) (heap_alloc_new w5 (.cells #[x5, y5, z5] 40))) (one5 hA) (by omega) (by unfold maxLen; omega) (by omega) (size5 hb b5) (w5.heap.size + 1) zz5 h
/-- What Copy leaves. -/
def Copied (w : World) (d : Nat) (e : Ex) (r : Ending) (w' : World) : Prop := ∃ v, r = .returned v ∧ At w' w.heap.size w'.heap.size d v e ∧ Below w.heap.size w w'

/-- How things are behind k parts. -/
structure CopyInv (W1 : World) (H0 op : Nat) (n : Int) (args : List Ex) (d k : Nat) (sv : Value) (xs : List Value) (wr : World) : Prop where
  own : wr.ownsRow (H0 + 3) 40 3 sv k xs
  parts : ∀ j (hj : j < k) (h : j < args.length), ∃ x y z, xs[3 * j]? = some x ∧ xs[3 * j + 1]? = some y ∧ xs[3 * j + 2]? = some z ∧ AtS wr (fun b => H0 + 3 ≤ b ∧ b < wr.heap.size ∧ sv.ownBlock ≠ some b) d (.agg #[x, y, z]) args[j]
  box : wr.heap[H0 + 2]? = some (.cells #[.int .u8 op, .int .i64 n, sv] 40 (0, 0))
  res : wr.heap[H0 + 1]? = some (.cells #[.int .u8 0, .int .i64 0, .slice none 0 0] 40 (0, 0))
  low : Below (H0 + 1) W1 wr
  size : H0 + 3 ≤ wr.heap.size
theorem heap_set_other (w : World) (g i : Nat) (u : Value) (b : Nat) (h : b ≠ g) : (w.setCell ⟨g, i, none⟩ u).heap[b]? = w.heap[b]? := by
  show (w.heap.modify g _)[b]? = _
  rw [Array.getElem?_modify, if_neg (by omega)]
theorem heap_set_same (w : World) (g i : Nat) (u : Value) (cs : Array Value) (t : TypeId) (h : w.heap[g]? = some (.cells cs t (0, 0))) : (w.setCell ⟨g, i, none⟩ u).heap[g]? = some (.cells (cs.setIfInBounds i u) t (0, 0)) := by
  have hl : g < w.heap.size := lt_of_block h
  have h' : w.heap[g] = .cells cs t (0, 0) := by simpa [Array.getElem?_eq_getElem hl] using h
  show (w.heap.modify g _)[g]? = _
  rw [Array.getElem?_eq_getElem (by simpa using hl), Array.getElem_modify_self, h']
  rfl
theorem CopyInv.step {W1 wr w5 w1 : World} {H0 op : Nat} {n : Int} {args : List Ex} {d k : Nat} {sv : Value} {xs : List Value} (inv : CopyInv W1 H0 op n args d k sv xs wr) (hk : k < args.length)
    (b5 : Below wr.heap.size wr w5) {x y z : Value} (ha : At w5 wr.heap.size w5.heap.size d (.agg #[x, y, z]) args[k]) {o : Obj} {g cap : Nat}
    (hown : w1.ownsRow (H0 + 3) 40 3 (.slice (some ⟨g, 0, none⟩) (k + 1) cap) (k + 1) (xs ++ [x, y, z])) (hg : (w5.alloc o).grownBy w1 sv.ownBlock) (hat : sv.ownBlock = some g ∨ g = w5.heap.size + 1) :
    CopyInv W1 H0 op n args d (k + 1) (.slice (some ⟨g, 0, none⟩) (k + 1) cap) (xs ++ [x, y, z]) (w1.setCell ⟨H0 + 2, 2, none⟩ (.slice (some ⟨g, 0, none⟩) (k + 1) cap)) := by
  have hz5 := b5.size
  have hz1 : w5.heap.size + 1 ≤ w1.heap.size := by have := hg.size; simpa using this
  have hlow : ∀ i, i < w5.heap.size → some i ≠ sv.ownBlock → w1.heap[i]? = w5.heap[i]? := fun i hi hne =>
    (hg.block i (by simp; omega) hne).trans (heap_alloc_old w5 o hi)
  have hold : ∀ i, i < wr.heap.size → some i ≠ sv.ownBlock → w1.heap[i]? = wr.heap[i]? := fun i hi hne => (hlow i (by omega) hne).trans (b5.block i hi)
  have hsv : ∀ b, b < H0 + 3 → some b ≠ sv.ownBlock := fun b hb => own_ge inv.own hb
  have hgge : H0 + 3 ≤ g := (hown.lt g rfl).1
  have hglt : g < w1.heap.size := (hown.lt g rfl).2
  have hsz := inv.size
  have hl0 := inv.own.1
  have hzs : (w1.setCell ⟨H0 + 2, 2, none⟩ (.slice (some ⟨g, 0, none⟩) (k + 1) cap)).heap.size = w1.heap.size := by simp
  refine ⟨?_, ?_, ?_, ?_, ?_, ?_⟩
  · refine hown.kept (row := some (H0 + 2)) ⟨rfl, rfl, rfl, by rw [hzs]; exact Nat.le_refl _, fun i hi hne => heap_set_other _ _ _ _ _ (by intro hc; exact hne (by rw [hc]))⟩ (.inr ?_)
    simp [Value.ownBlock]
    omega
  · intro j hj h
    by_cases hjk : j < k
    · obtain ⟨x', y', z', i1, i2, i3, hA⟩ := inv.parts j hjk h
      refine ⟨x', y', z', by rw [List.getElem?_append_left (by omega)]; exact i1, by rw [List.getElem?_append_left (by omega)]; exact i2, by rw [List.getElem?_append_left (by omega)]; exact i3, hA.keep ?_ ?_ d⟩
      · rintro b ⟨c1, c2, c3⟩
        refine ⟨c1, by rw [hzs]; omega, ?_⟩
        intro hc
        have hc' : g = b := by simpa [Value.ownBlock] using hc
        subst hc'
        rcases hat with h1 | h1
        · exact c3 h1
        · omega
      · rintro p ⟨c1, c2, c3⟩
        refine World.cell?_of_block ?_
        rw [heap_set_other _ _ _ _ _ (by omega)]
        exact hold _ c2 (fun hc => c3 hc.symm)
    · obtain rfl : j = k := by omega
      refine ⟨x, y, z, ?_, ?_, ?_, (ha.toS d).keep ?_ ?_ d⟩
      · rw [List.getElem?_append_right (by omega), show 3 * j - xs.length = 0 by omega]; rfl
      · rw [List.getElem?_append_right (by omega), show 3 * j + 1 - xs.length = 1 by omega]; rfl
      · rw [List.getElem?_append_right (by omega), show 3 * j + 2 - xs.length = 2 by omega]; rfl
      · rintro b ⟨c1, c2⟩
        refine ⟨by omega, by rw [hzs]; omega, ?_⟩
        intro hc
        have hc' : g = b := by simpa [Value.ownBlock] using hc
        subst hc'
        rcases hat with h1 | h1
        · have := (inv.own.lt g h1).2
          omega
        · omega
      · rintro p ⟨c1, c2⟩
        refine World.cell?_of_block ?_
        rw [heap_set_other _ _ _ _ _ (by omega)]
        refine hlow _ c2 (fun hc => ?_)
        have := (inv.own.lt _ hc.symm).2
        omega
  · have := heap_set_same w1 (H0 + 2) 2 (.slice (some ⟨g, 0, none⟩) (k + 1) cap) _ _ ((hold _ (by omega) (hsv _ (by omega))).trans inv.box)
    rw [this]
    rfl
  · rw [heap_set_other _ _ _ _ _ (by omega)]
    exact (hold _ (by omega) (hsv _ (by omega))).trans inv.res
  · have h1 : Below (H0 + 1) wr w1 := ⟨hg.os.trans b5.os, hg.tape.trans b5.tape, hg.output.trans b5.output, by omega, fun i hi => hold i (by omega) (hsv i (by omega))⟩
    exact (inv.low.trans h1).setCell (by show H0 + 1 ≤ H0 + 2; omega) _
  · rw [hzs]; omega
theorem CopyInv.drew {W1 wr : World} {H0 op : Nat} {n : Int} {args : List Ex} {d k : Nat} {sv : Value} {xs : List Value} (inv : CopyInv W1 H0 op n args d k sv xs wr) : CopyInv W1 H0 op n args d k sv xs wr.drew :=
  ⟨inv.own.drew, fun j hj h => by
    obtain ⟨x, y, z, i1, i2, i3, hA⟩ := inv.parts j hj h
    exact ⟨x, y, z, i1, i2, i3, AtS.keep (w := wr) (w' := wr.drew) (fun _ hb => hb) (fun _ _ => rfl) d hA⟩, inv.box, inv.res, inv.low.drew, inv.size⟩

theorem row_add (g m : Nat) : (⟨g, 0, none⟩ : Addr).add m = ⟨g, m, none⟩ := by unfold Addr.add; split <;> simp_all
theorem CopyInv.done {W1 wr W' : World} {H0 op : Nat} {n : Int} {args : List Ex} {d : Nat} {A' : Option Addr} {c' : Nat} {xs : List Value} (inv : CopyInv W1 H0 op n args d args.length (.slice A' args.length c') xs wr)
    (hs : W'.heap.size = wr.heap.size) (hb : ∀ b, b ≠ H0 + 1 → W'.heap[b]? = wr.heap[b]?) (q1 : op < 256) (q2 : -9223372036854775808 ≤ n) (q3 : n < 9223372036854775808) (q4 : args.length ≤ 9223372036854775807) :
    At W' H0 W'.heap.size (d + 1) (.agg #[.int .u8 op, .int .i64 n, .slice A' args.length c']) (.node op n args) := by
  refine ⟨q1, q2, q3, q4, A', c', rfl, fun k hk => ?_⟩
  obtain ⟨x, y, z, i1, i2, i3, hA⟩ := inv.parts k hk hk
  obtain ⟨g, cap, hv, hg1, hg2⟩ := inv.own.form (by omega)
  have hv' : A' = some ⟨g, 0, none⟩ := by injection hv
  subst hv'
  have hc : ∀ j u, xs[j]? = some u → W'.cell? ⟨g, j, none⟩ = some u := fun j u hu => by
    have := inv.own.cells (g := g) rfl j u hu
    rw [row_add] at this
    rw [← this]
    exact World.cell?_of_block (hb g (by omega))
  refine ⟨⟨g, 0, none⟩, x, y, z, rfl, by show H0 ≤ g; omega, by show g < _; omega, ?_, ?_, ?_, (hA.keep (S' := fun b => H0 ≤ b ∧ b < W'.heap.size) (fun b hb => ⟨by omega, by omega⟩) (fun p hp => World.cell?_of_block (hb _ (by omega))) d).toAt (fun b hb => hb) d⟩
  · rw [row_add]; exact hc _ _ (by rw [Nat.mul_comm]; exact i1)
  · rw [row_add]; exact hc _ _ (by rw [Nat.mul_comm]; exact i2)
  · rw [row_add]; exact hc _ _ (by rw [Nat.mul_comm]; exact i3)
end Go.Proofs.YthdcdffdpdoeoaaGreatDoor
