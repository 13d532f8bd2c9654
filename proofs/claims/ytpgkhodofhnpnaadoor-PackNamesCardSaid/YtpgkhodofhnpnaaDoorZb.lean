/-
  SEVERAL TEXTS IN ONE (a claim has sixty files at most): Eb, Ev, Da, Dw, Dy, Dp: the head of each stands ahead of it. No condition but theirs.
-/
import Derived.Test.YtpgkhodofhnpnaaDoorEm
import Derived.LoopTactic
import Derived.Handy
import Derived.WalkLawsBesides
import Derived.WalkSpells
import Derived.Deep.AppendLies
import Derived.Deep.RegionLaw
import Derived.Deep.DeepCutAuto
import Derived.Deep.CutBlock
import Derived.Laws.MakeOwn
/-
  WORDS FOR THE CONTRACTS OF LAYER 4: a struct's block; what a call tells of a value and an error; which variable a value means; what is whole, taken apart. No condition.
-/
namespace Go.Proofs.YtpgkhodofhnpnaaDoor
set_option maxRecDepth 100000
open Go.RowKit
set_option linter.unusedVariables false
theorem ret_n {a b : Nat} (h : a = b) : Ending.returned (.int .i64 a) = .returned (.int .i64 b) := by rw [h]
/-- The block of a struct that was handed in. -/
structure Boxed (w : World) (g : Nat) (x y z : Value) : Prop where
  c0 : w.cell? ⟨g, 0, none⟩ = some x
  c1 : w.cell? ⟨g, 1, none⟩ = some y
  c2 : w.cell? ⟨g, 2, none⟩ = some z
theorem Boxed.new (w : World) (x y z : Value) : Boxed (w.alloc (.cells #[x, y, z] 25)) w.heap.size x y z :=
  ⟨World.cell?_alloc_mark w _ _ (0, 0) 0, World.cell?_alloc_mark w _ _ (0, 0) 1, World.cell?_alloc_mark w _ _ (0, 0) 2⟩
theorem Boxed.below {w w' : World} {B g : Nat} {x y z : Value} (h : Boxed w g x y z) (hb : Below B w w') (hg : g < B) : Boxed w' g x y z :=
  ⟨(hb.cell (p := ⟨g, 0, none⟩) hg).trans h.c0, (hb.cell (p := ⟨g, 1, none⟩) hg).trans h.c1, (hb.cell (p := ⟨g, 2, none⟩) hg).trans h.c2⟩

theorem At.boxed {w : World} {lo hi d : Nat} {v : Value} {e : Ex} (h : At w lo hi d v e) : ∃ x y z, v = .agg #[x, y, z] := by
  cases d with
  | zero => exact h.elim
  | succ d =>
    obtain ⟨op, n, args⟩ := e
    obtain ⟨q1, q2, q3, q4, A, c, rfl, hk⟩ := h.open_
    exact ⟨_, _, _, rfl⟩
theorem boxed_below (w : World) (x y z : Value) : Below w.heap.size w (w.alloc (.cells #[x, y, z] 25)) := by go_grown

theorem ret_two {a b a' b' : Int} (h : a = a') (h2 : b = b') : Ending.returned (.tuple #[.int .i64 a, .int .i64 b]) = .returned (.tuple #[.int .i64 a', .int .i64 b']) := by rw [h, h2]
/-- Which of so many variables a value means. -/
def varF (x vars : Int) : Int × Int := if vars < 1 then (0, 1) else (x % vars, 0)
theorem tmod_fix (x v : Int) (hv : 0 < v) (h : x.tmod v < 0) : x.tmod v + v = x % v := by
  have h1 := Int.tmod_eq_emod (a := x) (b := v)
  have h2 := Int.emod_nonneg x (by omega : v ≠ 0)
  have h3 := Int.emod_lt_of_pos x hv
  rw [h1] at h ⊢
  split at h
  · omega
  · rename_i hc
    rw [if_neg hc]
    omega
theorem tmod_pos (x v : Int) (hv : 0 < v) (h : 0 ≤ x.tmod v) : x.tmod v = x % v := by
  have h1 := Int.tmod_eq_emod (a := x) (b := v)
  have h2 := Int.emod_nonneg x (by omega : v ≠ 0)
  have h3 := Int.emod_lt_of_pos x hv
  rw [h1] at h ⊢
  split at h
  · rename_i hc
    rw [if_pos hc]; omega
  · rename_i hc
    rw [if_neg hc]
    omega
def comeV (p : Int × Nat) : Value := .tuple #[.int .i64 p.1, .int .i64 p.2]
theorem ret_come {p : Int × Nat} {a b : Int} (h : a = p.1) (h2 : b = p.2) : Ending.returned (.tuple #[.int .i64 a, .int .i64 b]) = .returned (comeV p) := by rw [h, h2]; rfl
theorem whole_two {m op : Nat} {n : Int} {args : List Ex} (h4 : 4 ≤ op) (h8 : op ≤ 8) (h : wholeF (m + 1) (.node op n args) = true) : n = 0 ∧ ∃ a b, args = [a, b] ∧ wholeF m a = true ∧ wholeF m b = true := by
  rw [wholeF, if_neg (by omega), if_neg (by omega), if_neg (by omega), if_pos ⟨h4, h8⟩, Bool.and_eq_true] at h
  refine ⟨of_decide_eq_true h.1, ?_⟩
  by_cases h2 : args.length = 2
  · match args, h2 with
    | [a, b], _ =>
      have := h.2
      simp only [both, Bool.and_eq_true] at this
      exact ⟨a, b, rfl, this⟩
  · rw [both_no _ _ h2] at h
    cases h.2
theorem whole_op {m op : Nat} {n : Int} {args : List Ex} (h : wholeF (m + 1) (.node op n args) = true) : 1 ≤ op ∧ op ≤ 8 := by
  by_cases h1 : 1 ≤ op ∧ op ≤ 8
  · exact h1
  · rw [wholeF, if_neg (by omega), if_neg (by omega), if_neg (by omega), if_neg (by omega)] at h
    cases h
theorem whole_at {m op : Nat} {n : Int} {args : List Ex} (ho : op = 2 ∨ op = 3) (h : wholeF (m + 1) (.node op n args) = true) : 0 ≤ n := by
  rcases ho with rfl | rfl
  · rw [wholeF, if_neg (by omega), if_pos rfl] at h
    exact (of_decide_eq_true h).2.1
  · rw [wholeF, if_neg (by omega), if_neg (by omega), if_pos rfl] at h
    exact (of_decide_eq_true h).2.1
end Go.Proofs.YtpgkhodofhnpnaaDoor
/-
  WORDS FOR A COPY: trees appended one by one to a row of the call's own: how things are behind k parts, and what lies there at the end. Conditions: as they stand.
-/
namespace Go.Proofs.YtpgkhodofhnpnaaDoor
set_option maxRecDepth 100000
open Go.RowKit
set_option linter.unusedVariables false
theorem expr_info : (Tryd.prog.info? 25).map (fun i => (i.zero, i.size, i.bytes)) = some (some (.agg #[.int .u8 0, .int .i64 0, .slice none 0 0]), 3, 40) := by kernel_rfl

theorem boxed_b (w : World) (x y z : Value) : Below w.heap.size w (w.alloc (.cells #[x, y, z] 25)) := by go_grown
theorem At.cnt_pos {w : World} {lo hi : Nat} (d : Nat) {v : Value} {e : Ex} (h : At w lo hi d v e) : 1 ≤ cnt d e := by
  cases d with
  | zero => exact h.elim
  | succ d =>
    obtain ⟨op, n, args⟩ := e
    rw [cnt]
    omega
theorem Kids.pos {w : World} {lo hi d : Nat} {A : Option Addr} {args : List Ex} (h : Kids w lo hi d A args) : ∀ e ∈ args, 1 ≤ cnt d e := by
  intro e he
  obtain ⟨k, hk, rfl⟩ := List.getElem_of_mem he
  obtain ⟨a, x, y, z, rfl, m1, m2, g0, g1, g2, hA⟩ := h k hk
  exact hA.cnt_pos
theorem len_sum {f : Ex → Nat} (l : List Ex) (h : ∀ e ∈ l, 1 ≤ f e) : l.length ≤ (l.map f).sum := by
  induction l with
  | nil => simp
  | cons e r ih =>
    have := ih fun x hx => h x (List.mem_cons_of_mem _ hx)
    have := h e (List.mem_cons_self ..)
    rw [List.map_cons, List.sum_cons, List.length_cons]
    omega
theorem boxed_at {w : World} {lo hi d : Nat} {v : Value} {e : Ex} (h : At w lo hi d v e) : ∃ x y z, v = .agg #[x, y, z] := by
  cases d with
  | zero => exact h.elim
  | succ d =>
    obtain ⟨op, n, args⟩ := e
    obtain ⟨q1, q2, q3, q4, A, c, rfl, hk⟩ := h.open_
    exact ⟨_, _, _, rfl⟩
theorem one5 {w : World} {lo hi d : Nat} {x y z : Value} {e : Ex} (h : At w lo hi d (.agg #[x, y, z]) e) : ∀ u ∈ [x, y, z], u.oneCell' = true := by
  cases d with
  | zero => exact h.elim
  | succ d =>
    obtain ⟨op, n, args⟩ := e
    obtain ⟨q1, q2, q3, q4, A, c, hv, hk⟩ := h.open_
    simp only [Value.agg.injEq, Array.mk.injEq, List.cons.injEq, and_true] at hv
    obtain ⟨rfl, rfl, rfl⟩ := hv
    simp [Value.oneCell']
theorem own5 {w w5 : World} {base : Nat} {e : TypeId} {size n : Nat} {v : Value} {xs : List Value} (h : w.ownsRow base e size v n xs) (b5 : Below w.drew.heap.size w.drew w5) : w5.ownsRow base e size v n xs :=
  h.kept (row := none) ⟨b5.os, b5.tape, b5.output, b5.size, fun i hi _ => b5.block i hi⟩ (by cases hv : v.ownBlock <;> simp)
theorem size5 {w w5 : World} {B : Nat} {o : Obj} (h : B ≤ w.heap.size) (b5 : Below w.drew.heap.size w.drew w5) : B ≤ (w5.alloc o).heap.size := by
  have := b5.size
  simp at this ⊢
  omega
theorem own_ge {w : World} {base : Nat} {e : TypeId} {size n : Nat} {v : Value} {xs : List Value} (h : w.ownsRow base e size v n xs) {b : Nat} (hb : b < base) : some b ≠ v.ownBlock := by
  intro hc
  have := h.lt b hc.symm
  omega
theorem size6 {w w5 : World} {B : Nat} (h : B ≤ w.heap.size) (b5 : Below w.drew.heap.size w.drew w5) : B ≤ w5.heap.size := by
  have := b5.size
  simp at this
  omega
theorem low_grown {w w5 w1 : World} {B base : Nat} {e : TypeId} {size n : Nat} {v : Value} {xs : List Value} {o : Obj} (h : Below B w w5) (hz : B ≤ w5.heap.size) (own : w.ownsRow base e size v n xs) (hb : B ≤ base) (hg : (w5.alloc o).grownBy w1 v.ownBlock) : Below B w w1 :=
  ⟨hg.os.trans h.os, hg.tape.trans h.tape, hg.output.trans h.output, by have := hg.size; have := h.size; simp at *; omega, fun i hi => (hg.block i (by simp; omega) (by
    intro hc
    have := own.lt i hc.symm
    omega)).trans ((heap_alloc_old w5 o (by omega)).trans (h.block i hi))⟩
theorem far_free {w w5 w1 : World} {H0 : Nat} {e t : TypeId} {size n : Nat} {v : Value} {xs : List Value} {o : Obj} {cs : Array Value} (hz : H0 + 3 ≤ w5.heap.size) (own : w.ownsRow (H0 + 3) e size v n xs) (hb : w.heap[H0 + 2]? = some (.cells cs t (0, 0)))
    (b5 : Below w.drew.heap.size w.drew w5) (hg : (w5.alloc o).grownBy w1 v.ownBlock) : w1.frozen? ⟨H0 + 1 + 1, 2, none⟩ = false := by
  have h1 : w1.heap[H0 + 2]? = some (.cells cs t (0, 0)) := by
    rw [hg.block (H0 + 2) (by simp; omega) (fun hc => by have := own.lt _ hc.symm; omega), heap_alloc_old w5 o (by omega), b5.block (H0 + 2) (by simpa using lt_of_block hb)]
    exact hb
  simp [World.frozen?, h1]
theorem low_grown3 {w w5 w1 : World} {H0 : Nat} {e : TypeId} {size n : Nat} {v : Value} {xs : List Value} {o : Obj} (h : Below (H0 + 1) w w5) (hz : H0 + 3 ≤ w5.heap.size) (own : w.ownsRow (H0 + 3) e size v n xs) (hg : (w5.alloc o).grownBy w1 v.ownBlock) : Below (H0 + 1) w w1 :=
  low_grown h (by omega) own (by omega) hg
theorem far_cell3 {w w5 w1 : World} {H0 : Nat} {e : TypeId} {size n : Nat} {v u : Value} {xs : List Value} {o : Obj} (hz : H0 + 3 ≤ w5.heap.size) (own : w.ownsRow (H0 + 3) e size v n xs) (hg : (w5.alloc o).grownBy w1 v.ownBlock) (hc : (w5.alloc o).cell? ⟨H0 + 1 + 1, 2, none⟩ = some u) : w1.cell? ⟨H0 + 1 + 1, 2, none⟩ = some u :=
  (hg.cell_far ⟨H0 + 1 + 1, 2, none⟩ (by show H0 + 1 + 1 < _; simp; omega) (own_ge own (by show H0 + 1 + 1 < _; omega))).trans hc
/-- The append of one tree. -/
theorem append_tree {w w5 : World} {base : Nat} {sv : Value} {k : Nat} {xs : List Value} {lo hi d : Nat} {x5 y5 z5 : Value} {e : Ex} {ops : Array Oper} {o : Oper} {a : Act} {K : Act → World → Prop} {Q : Exit → Act → World → Prop} {E : Prop}
    (own : w.ownsRow base 25 3 sv k xs) (hb : base ≤ w.heap.size) (hk : k ≤ 100000) (b5 : Below w.drew.heap.size w.drew w5) (hA : At w5 lo hi d (.agg #[x5, y5, z5]) e)
    (hgd : o.guard = none) (s x : Operand) (ho : o.op = .call { callee := .builtin .append, args := #[s, x], argTypes := #[23, 23] }) (hs : a.eval s = sv) (hx : a.eval x = .slice (some ⟨w5.heap.size, 0, none⟩) 1 1)
    (h : ∀ g cap w', w'.ownsRow base 25 3 (.slice (some ⟨g, 0, none⟩) (k + 1) cap) (k + 1) (xs ++ [x5, y5, z5]) → (w5.alloc (.cells #[x5, y5, z5] 25)).grownBy w' sv.ownBlock → (sv.ownBlock = some g ∨ g = w5.heap.size + 1) → g < w'.heap.size → K (a.put o.dst (.slice (some ⟨g, 0, none⟩) (k + 1) cap)) w') :
    if Region.wanted o (yielded ops a.tmps) = true then Oper.wp Tryd.prog o a (w5.alloc (.cells #[x5, y5, z5] 25)) K Q else E := by
  obtain ⟨i0, hi0, hz0, hz1, hz2⟩ := info_parts expr_info
  have zz5 : (w5.alloc (.cells #[x5, y5, z5] 25)).heap.size = w5.heap.size + 1 := by simp
  exact step_append_lies _ hgd s x _ ho base 25 i0 _ 3 40 Tryd.underlying23 hi0 hz0 hz1 hz2 rfl (by omega) sv k xs hs ((own5 own b5).alloc (.cells #[x5, y5, z5] 25)) ⟨w5.heap.size, 0, none⟩ 1 1 [x5, y5, z5] hx rfl (World.news_of_block (cs := #[x5, y5, z5]) (t := 25) (fr := (0, 0)) (heap_alloc_new w5 (.cells #[x5, y5, z5] 25))) (one5 hA) (by omega) (by unfold maxLen; omega) (by omega) (size5 hb b5) (w5.heap.size + 1) zz5 h
/-- What Copy leaves. -/
def Copied (w : World) (d : Nat) (e : Ex) (r : Ending) (w' : World) : Prop := ∃ v, r = .returned v ∧ At w' w.heap.size w'.heap.size d v e ∧ Below w.heap.size w w'

/-- How things are behind k parts. -/
structure CopyInv (W1 : World) (H0 op : Nat) (n : Int) (args : List Ex) (d k : Nat) (sv : Value) (xs : List Value) (wr : World) : Prop where
  own : wr.ownsRow (H0 + 3) 25 3 sv k xs
  parts : ∀ j (hj : j < k) (h : j < args.length), ∃ x y z, xs[3 * j]? = some x ∧ xs[3 * j + 1]? = some y ∧ xs[3 * j + 2]? = some z ∧ AtS wr (fun b => H0 + 3 ≤ b ∧ b < wr.heap.size ∧ sv.ownBlock ≠ some b) d (.agg #[x, y, z]) args[j]
  box : wr.heap[H0 + 2]? = some (.cells #[.int .u8 op, .int .i64 n, sv] 25 (0, 0))
  res : wr.heap[H0 + 1]? = some (.cells #[.int .u8 0, .int .i64 0, .slice none 0 0] 25 (0, 0))
  low : Below (H0 + 1) W1 wr
  size : H0 + 3 ≤ wr.heap.size
theorem heap_set_other (w : World) (g i : Nat) (u : Value) (b : Nat) (h : b ≠ g) : (w.setCell ⟨g, i, none⟩ u).heap[b]? = w.heap[b]? := by
  show (w.heap.modify g _)[b]? = _
  rw [Array.getElem?_modify, if_neg (by omega)]
theorem heap_set_same (w : World) (g i : Nat) (u : Value) (cs : Array Value) (t : TypeId) (h : w.heap[g]? = some (.cells cs t (0, 0))) : (w.setCell ⟨g, i, none⟩ u).heap[g]? = some (.cells (cs.setIfInBounds i u) t (0, 0)) := by
  have hl : g < w.heap.size := lt_of_block h
  have h' : w.heap[g] = .cells cs t (0, 0) := by simpa [Array.getElem?_eq_getElem hl] using h
  show (w.heap.modify g _)[g]? = _
  rw [Array.getElem?_eq_getElem (by simpa using hl), Array.getElem_modify_self, h']
  rfl
theorem CopyInv.step {W1 wr w5 w1 : World} {H0 op : Nat} {n : Int} {args : List Ex} {d k : Nat} {sv : Value} {xs : List Value} (inv : CopyInv W1 H0 op n args d k sv xs wr) (hk : k < args.length)
    (b5 : Below wr.heap.size wr w5) {x y z : Value} (ha : At w5 wr.heap.size w5.heap.size d (.agg #[x, y, z]) args[k]) {o : Obj} {g cap : Nat}
    (hown : w1.ownsRow (H0 + 3) 25 3 (.slice (some ⟨g, 0, none⟩) (k + 1) cap) (k + 1) (xs ++ [x, y, z])) (hg : (w5.alloc o).grownBy w1 sv.ownBlock) (hat : sv.ownBlock = some g ∨ g = w5.heap.size + 1) :
    CopyInv W1 H0 op n args d (k + 1) (.slice (some ⟨g, 0, none⟩) (k + 1) cap) (xs ++ [x, y, z]) (w1.setCell ⟨H0 + 2, 2, none⟩ (.slice (some ⟨g, 0, none⟩) (k + 1) cap)) := by
  have hz5 := b5.size
  have hz1 : w5.heap.size + 1 ≤ w1.heap.size := by have := hg.size; simpa using this
  have hlow : ∀ i, i < w5.heap.size → some i ≠ sv.ownBlock → w1.heap[i]? = w5.heap[i]? := fun i hi hne =>
    (hg.block i (by simp; omega) hne).trans (heap_alloc_old w5 o hi)
  have hold : ∀ i, i < wr.heap.size → some i ≠ sv.ownBlock → w1.heap[i]? = wr.heap[i]? := fun i hi hne => (hlow i (by omega) hne).trans (b5.block i hi)
  have hsv : ∀ b, b < H0 + 3 → some b ≠ sv.ownBlock := fun b hb => own_ge inv.own hb
  have hgge : H0 + 3 ≤ g := (hown.lt g rfl).1
  have hglt : g < w1.heap.size := (hown.lt g rfl).2
  have hsz := inv.size
  have hl0 := inv.own.1
  have hzs : (w1.setCell ⟨H0 + 2, 2, none⟩ (.slice (some ⟨g, 0, none⟩) (k + 1) cap)).heap.size = w1.heap.size := by simp
  refine ⟨?_, ?_, ?_, ?_, ?_, ?_⟩
  · refine hown.kept (row := some (H0 + 2)) ⟨rfl, rfl, rfl, by rw [hzs]; exact Nat.le_refl _, fun i hi hne => heap_set_other _ _ _ _ _ (by intro hc; exact hne (by rw [hc]))⟩ (.inr ?_)
    simp [Value.ownBlock]
    omega
  · intro j hj h
    by_cases hjk : j < k
    · obtain ⟨x', y', z', i1, i2, i3, hA⟩ := inv.parts j hjk h
      refine ⟨x', y', z', by rw [List.getElem?_append_left (by omega)]; exact i1, by rw [List.getElem?_append_left (by omega)]; exact i2, by rw [List.getElem?_append_left (by omega)]; exact i3, hA.keep ?_ ?_ d⟩
      · rintro b ⟨c1, c2, c3⟩
        refine ⟨c1, by rw [hzs]; omega, ?_⟩
        intro hc
        have hc' : g = b := by simpa [Value.ownBlock] using hc
        subst hc'
        rcases hat with h1 | h1
        · exact c3 h1
        · omega
      · rintro p ⟨c1, c2, c3⟩
        refine World.cell?_of_block ?_
        rw [heap_set_other _ _ _ _ _ (by omega)]
        exact hold _ c2 (fun hc => c3 hc.symm)
    · obtain rfl : j = k := by omega
      refine ⟨x, y, z, ?_, ?_, ?_, (ha.toS d).keep ?_ ?_ d⟩
      · rw [List.getElem?_append_right (by omega), show 3 * j - xs.length = 0 by omega]; rfl
      · rw [List.getElem?_append_right (by omega), show 3 * j + 1 - xs.length = 1 by omega]; rfl
      · rw [List.getElem?_append_right (by omega), show 3 * j + 2 - xs.length = 2 by omega]; rfl
      · rintro b ⟨c1, c2⟩
        refine ⟨by omega, by rw [hzs]; omega, ?_⟩
        intro hc
        have hc' : g = b := by simpa [Value.ownBlock] using hc
        subst hc'
        rcases hat with h1 | h1
        · have := (inv.own.lt g h1).2
          omega
        · omega
      · rintro p ⟨c1, c2⟩
        refine World.cell?_of_block ?_
        rw [heap_set_other _ _ _ _ _ (by omega)]
        refine hlow _ c2 (fun hc => ?_)
        have := (inv.own.lt _ hc.symm).2
        omega
  · have := heap_set_same w1 (H0 + 2) 2 (.slice (some ⟨g, 0, none⟩) (k + 1) cap) _ _ ((hold _ (by omega) (hsv _ (by omega))).trans inv.box)
    rw [this]
    rfl
  · rw [heap_set_other _ _ _ _ _ (by omega)]
    exact (hold _ (by omega) (hsv _ (by omega))).trans inv.res
  · have h1 : Below (H0 + 1) wr w1 := ⟨hg.os.trans b5.os, hg.tape.trans b5.tape, hg.output.trans b5.output, by omega, fun i hi => hold i (by omega) (hsv i (by omega))⟩
    exact (inv.low.trans h1).setCell (by show H0 + 1 ≤ H0 + 2; omega) _
  · rw [hzs]; omega
theorem CopyInv.drew {W1 wr : World} {H0 op : Nat} {n : Int} {args : List Ex} {d k : Nat} {sv : Value} {xs : List Value} (inv : CopyInv W1 H0 op n args d k sv xs wr) : CopyInv W1 H0 op n args d k sv xs wr.drew :=
  ⟨inv.own.drew, fun j hj h => by
    obtain ⟨x, y, z, i1, i2, i3, hA⟩ := inv.parts j hj h
    exact ⟨x, y, z, i1, i2, i3, AtS.keep (w := wr) (w' := wr.drew) (fun _ hb => hb) (fun _ _ => rfl) d hA⟩, inv.box, inv.res, inv.low.drew, inv.size⟩

theorem row_add (g m : Nat) : (⟨g, 0, none⟩ : Addr).add m = ⟨g, m, none⟩ := by unfold Addr.add; split <;> simp_all
theorem CopyInv.done {W1 wr W' : World} {H0 op : Nat} {n : Int} {args : List Ex} {d : Nat} {A' : Option Addr} {c' : Nat} {xs : List Value} (inv : CopyInv W1 H0 op n args d args.length (.slice A' args.length c') xs wr)
    (hs : W'.heap.size = wr.heap.size) (hb : ∀ b, b ≠ H0 + 1 → W'.heap[b]? = wr.heap[b]?) (q1 : op < 256) (q2 : -9223372036854775808 ≤ n) (q3 : n < 9223372036854775808) (q4 : args.length ≤ 9223372036854775807) :
    At W' H0 W'.heap.size (d + 1) (.agg #[.int .u8 op, .int .i64 n, .slice A' args.length c']) (.node op n args) := by
  refine ⟨q1, q2, q3, q4, A', c', rfl, fun k hk => ?_⟩
  obtain ⟨x, y, z, i1, i2, i3, hA⟩ := inv.parts k hk hk
  obtain ⟨g, cap, hv, hg1, hg2⟩ := inv.own.form (by omega)
  have hv' : A' = some ⟨g, 0, none⟩ := by injection hv
  subst hv'
  have hc : ∀ j u, xs[j]? = some u → W'.cell? ⟨g, j, none⟩ = some u := fun j u hu => by
    have := inv.own.cells (g := g) rfl j u hu
    rw [row_add] at this
    rw [← this]
    exact World.cell?_of_block (hb g (by omega))
  refine ⟨⟨g, 0, none⟩, x, y, z, rfl, by show H0 ≤ g; omega, by show g < _; omega, ?_, ?_, ?_, (hA.keep (S' := fun b => H0 ≤ b ∧ b < W'.heap.size) (fun b hb => ⟨by omega, by omega⟩) (fun p hp => World.cell?_of_block (hb _ (by omega))) d).toAt (fun b hb => hb) d⟩
  · rw [row_add]; exact hc _ _ (by rw [Nat.mul_comm]; exact i1)
  · rw [row_add]; exact hc _ _ (by rw [Nat.mul_comm]; exact i2)
  · rw [row_add]; exact hc _ _ (by rw [Nat.mul_comm]; exact i3)
end Go.Proofs.YtpgkhodofhnpnaaDoor
/-
  CONTRACTS OF PACKAGE expr's OPERATORS: operator (an array of functions), its five functions, truth: which function stands at an Op, and what it comes to. No condition.
-/
namespace Go.Proofs.YtpgkhodofhnpnaaDoor
set_option maxRecDepth 100000
open Go.RowKit
set_option linter.unusedVariables false
/-- Which function stands at an Op. -/
def opFn (op : Nat) : Value :=
  if op = 4 then .func (.func 78) #[] #[] else if op = 5 then .func (.func 79) #[] #[] else if op = 6 then .func (.func 80) #[] #[] else if op = 7 then .func (.func 81) #[] #[] else if op = 8 then .func (.func 83) #[] #[] else .nilFunc
theorem ret_v {a b : Value} (h : a = b) : Ending.returned a = .returned b := by rw [h]
theorem st_nilFunc (w : World) (a : Addr) (m : Mode) : (store a .nilFunc m).run Tryd.prog w = stored Tryd.prog w a .nilFunc m := run_store Tryd.prog w a _ m rfl
theorem st_func (w : World) (a : Addr) (m : Mode) (n : Nat) : (store a (.func (.func n) #[] #[]) m).run Tryd.prog w = stored Tryd.prog w a (.func (.func n) #[] #[]) m := run_store Tryd.prog w a _ m rfl
theorem opFn_at (op : Nat) (h : op < 9) : ([.nilFunc, .nilFunc, .nilFunc, .nilFunc, .func (.func 78) #[] #[], .func (.func 79) #[] #[], .func (.func 80) #[] #[], .func (.func 81) #[] #[], .func (.func 83) #[] #[]] : List Value)[op]? = some (opFn op) := by
  obtain h | h | h | h | h | h | h | h | h : op = 0 ∨ op = 1 ∨ op = 2 ∨ op = 3 ∨ op = 4 ∨ op = 5 ∨ op = 6 ∨ op = 7 ∨ op = 8 := by omega
  all_goals subst h; rfl
theorem opFn_no (op : Nat) (h : 9 ≤ op) : opFn op = .nilFunc := by unfold opFn; rw [if_neg (by omega), if_neg (by omega), if_neg (by omega), if_neg (by omega), if_neg (by omega)]
set_option maxRecDepth 100000 in
theorem oper_any (op : Nat) (w : World) (h : op < 256) :
    Calls Tryd.prog 77 #[.int .u8 op] w fun r w' => r = .returned (opFn op) ∧ Below w.heap.size w w' := by
  have s1 := st_nilFunc
  have s2 := st_func
  by_cases h9 : op < 9
  · have hl := opFn_at op h9
    have hb : (op : Int) < 9 := by omega
    obtain ⟨v, hv⟩ : ∃ v, v = opFn op := ⟨_, rfl⟩
    rw [← hv] at hl ⊢
    have HL := Lib.hid hl
    clear hv
    go_enter Tryd.func77, Tryd.ntmps77
    go_wp2_with fail
    go_ret
    exact ⟨ret_v (List.getElem?_eq_some_iff.1 HL.out).2, by go_grown⟩
  · have hb : 9 ≤ (op : Int) := by omega
    rw [opFn_no op (by omega)]
    go_enter Tryd.func77, Tryd.ntmps77
    go_wp2_with fail
    go_ret
    exact ⟨rfl, by go_grown⟩
set_option maxRecDepth 100000 in
theorem oper_add (x y : Int) (w : World) : Calls Tryd.prog 78 #[.int .i64 x, .int .i64 y] w fun r w' => r = .returned (.int .i64 (opV 4 x y)) ∧ w = w' := by
  go_enter Tryd.func78, Tryd.ntmps78
  go_wp2_with fail
  go_ret
  exact ⟨rfl, rfl⟩
set_option maxRecDepth 100000 in
theorem oper_sub (x y : Int) (w : World) : Calls Tryd.prog 79 #[.int .i64 x, .int .i64 y] w fun r w' => r = .returned (.int .i64 (opV 5 x y)) ∧ w = w' := by
  go_enter Tryd.func79, Tryd.ntmps79
  go_wp2_with fail
  go_ret
  exact ⟨rfl, rfl⟩
set_option maxRecDepth 100000 in
theorem oper_mul (x y : Int) (w : World) : Calls Tryd.prog 80 #[.int .i64 x, .int .i64 y] w fun r w' => r = .returned (.int .i64 (opV 6 x y)) ∧ w = w' := by
  go_enter Tryd.func80, Tryd.ntmps80
  go_wp2_with fail
  go_ret
  exact ⟨rfl, rfl⟩
/-- A truth as a number. -/
def b01 (b : Bool) : Int := if b then 1 else 0
set_option maxRecDepth 100000 in
theorem truth_any (b : Bool) (w : World) : Calls Tryd.prog 82 #[.bool b] w fun r w' => r = .returned (.int .i64 (b01 b)) ∧ w = w' := by
  cases b
  all_goals
    go_enter Tryd.func82, Tryd.ntmps82
    go_wp2_with fail
    go_ret
    exact ⟨rfl, rfl⟩
set_option maxRecDepth 100000 in
theorem oper_less (x y : Int) (w : World) : Calls Tryd.prog 81 #[.int .i64 x, .int .i64 y] w fun r w' => r = .returned (.int .i64 (opV 7 x y)) ∧ w = w' := by
  have e : Hid (opV 7 x y = b01 (decide (x < y))) := by show _ = _; simp [opV, b01]
  obtain ⟨u, hu⟩ : ∃ u, u = opV 7 x y := ⟨_, rfl⟩
  rw [← hu] at e ⊢
  clear hu
  go_enter Tryd.func81, Tryd.ntmps81
  go_wp2_with fail
  refine (truth_any _ _).mono ?_
  rintro r w' ⟨rfl, rfl⟩
  go_wp2_with fail
  go_ret
  exact ⟨ret_v (by rw [e.out]; rfl), rfl⟩
set_option maxRecDepth 100000 in
theorem oper_equal (x y : Int) (w : World) : Calls Tryd.prog 83 #[.int .i64 x, .int .i64 y] w fun r w' => r = .returned (.int .i64 (opV 8 x y)) ∧ w = w' := by
  have e : Hid (opV 8 x y = b01 (x == y)) := by show _ = _; simp [opV, b01]
  obtain ⟨u, hu⟩ : ∃ u, u = opV 8 x y := ⟨_, rfl⟩
  rw [← hu] at e ⊢
  clear hu
  go_enter Tryd.func83, Tryd.ntmps83
  go_wp2_with fail
  refine (truth_any _ _).mono ?_
  rintro r w' ⟨rfl, rfl⟩
  go_wp2_with fail
  go_ret
  exact ⟨ret_v (by rw [e.out]; rfl), rfl⟩
end Go.Proofs.YtpgkhodofhnpnaaDoor
/-
  CONTRACTS OF PACKAGE expr's whole, Whole: whether a tree is whole; the memory that was there stays as it was. Conditions: as they stand.
-/
namespace Go.Proofs.YtpgkhodofhnpnaaDoor
set_option maxRecDepth 100000
open Go.RowKit
set_option linter.unusedVariables false
theorem opFn_fn (op : Nat) (h4 : 4 ≤ op) (h8 : op ≤ 8) : ∃ k, opFn op = .func (.func k) #[] #[] := by
  obtain h | h | h | h | h : op = 4 ∨ op = 5 ∨ op = 6 ∨ op = 7 ∨ op = 8 := by omega
  all_goals subst h; exact ⟨_, rfl⟩

theorem eqIn_fn (d : Nat) (k : FuncId) (w : World) : (Op.equalIn (d + 1) 135 (.func (.func k) #[] #[]) .nilFunc).run Tryd.prog w = .ok false w := by
  simp [Op.equalIn, run_underlying Tryd.underlying135]
theorem eqIn_nil (d : Nat) (w : World) : (Op.equalIn (d + 1) 135 .nilFunc .nilFunc).run Tryd.prog w = .ok true w := by
  simp [Op.equalIn, run_underlying Tryd.underlying135]
theorem eq_fn (k : FuncId) (w : World) : (Op.equal 135 (.func (.func k) #[] #[]) .nilFunc).run Tryd.prog w = .ok false w := eqIn_fn 9999 k w
theorem eq_nil (w : World) : (Op.equal 135 .nilFunc .nilFunc).run Tryd.prog w = .ok true w := eqIn_nil 9999 w
theorem neq_fn (k : FuncId) (w : World) : (Go.binOp .neq 135 (.func (.func k) #[] #[]) .nilFunc).run Tryd.prog w = .ok (.bool true) w := by
  simp only [Go.binOp]
  simp [eq_fn]
theorem neq_nil (w : World) : (Go.binOp .neq 135 .nilFunc .nilFunc).run Tryd.prog w = .ok (.bool false) w := by
  simp only [Go.binOp]
  simp [eq_nil]
set_option maxRecDepth 100000 in
set_option maxHeartbeats 4000000 in
theorem whole_ops (m : Nat) (hm : m ≤ 100) (op : Nat) (h4 : 4 ≤ op) (h8 : op ≤ 8) (d : Nat) (n : Int) (args : List Ex) (A : Option Addr) (c lo hi : Nat) (w : World) (hk : Kids w lo hi d A args) (hhi : hi ≤ w.heap.size) (q4 : args.length ≤ 9223372036854775807)
    (ih : ∀ (d : Nat) (e : Ex) (v : Value) (lo hi : Nat) (w : World), At w lo hi d v e → hi ≤ w.heap.size → Calls Tryd.prog 76 #[v, .int .i64 m] w fun r w' => r = .returned (.bool (wholeF m e)) ∧ Below w.heap.size w w') :
    Calls Tryd.prog 76 #[.agg #[.int .u8 op, .int .i64 n, .slice A args.length c], .int .i64 (m + 1 : Nat)] w fun r w' => r = .returned (.bool (wholeF (m + 1) (.node op n args))) ∧ Below w.heap.size w w' := by
  have b0 : Below w.heap.size w (w.alloc (.cells #[.int .u8 op, .int .i64 n, .slice A args.length c] 25)) := by go_grown
  have HZ0 : Hid (w.heap.size < (w.alloc (.cells #[.int .u8 op, .int .i64 n, .slice A args.length c] 25)).heap.size) := by show _ < _; simp
  have HK := Lib.hid (Kids.below hk b0 hhi)
  have IH := Lib.hid ih
  have HBX := Lib.hid (Boxed.new w (.int .u8 op) (.int .i64 n) (.slice A args.length c))
  have HB0 := Lib.hid b0
  clear hk ih b0
  obtain ⟨kf, hkf⟩ := opFn_fn op h4 h8
  have HOP : Hid (∀ w, Calls Tryd.prog 77 #[.int .u8 op] w fun r w' => r = .returned (.func (.func kf) #[] #[]) ∧ Below w.heap.size w w') := fun w => by
    have := oper_any op w (by omega)
    rw [hkf] at this
    exact this
  clear hkf
  have hv : wholeF (m + 1) (.node op n args) = (decide (n = 0) && both (fun e => wholeF m e) args) := by rw [wholeF, if_neg (by omega), if_neg (by omega), if_neg (by omega), if_pos (by omega)]
  have e1 : ((op : Int) == 1) = false := beq_eq_false_iff_ne.2 (by omega)
  have e2 : ((op : Int) == 2) = false := beq_eq_false_iff_ne.2 (by omega)
  have e3 : ((op : Int) == 3) = false := beq_eq_false_iff_ne.2 (by omega)
  have hne := neq_fn
  have e0 : (((m + 1 : Nat) : Int) == 0) = false := beq_eq_false_iff_ne.2 (by omega)
  by_cases h0 : n = 0
  · by_cases h2 : args.length = 2
    · match args, h2 with
      | [x1, x2], _ =>
        have HV : Hid (wholeF (m + 1) (.node op n [x1, x2]) = (wholeF m x1 && wholeF m x2)) := by show wholeF _ _ = _; rw [hv, decide_eq_true h0]; rfl
        clear hv
        subst h0
        obtain ⟨a, x, y, z, x', y', z', rfl, m1, m2, t1, t2, hA, hA'⟩ := HK.out.two
        have hz : hi ≤ (w.alloc (.cells #[.int .u8 op, .int .i64 0, .slice (some a) [x1, x2].length c] 25)).heap.size := by simp; omega
        clear h4 h8
        go_enter Tryd.func76, Tryd.ntmps76
        go_upto_region 10 with fail
        have b0 := HB0.out
        have z0 := HZ0.out
        obtain ⟨W, hW⟩ : ∃ W, W = w.alloc (.cells #[.int .u8 op, .int .i64 0, .slice (some a) 2 c] 25) := ⟨_, rfl⟩
        simp only [List.length_cons, List.length_nil, Nat.zero_add, Nat.reduceAdd] at b0 z0 HBX hA hA' t1 t2 hz
        rw [← hW] at b0 z0 HBX hA hA' t1 t2 hz ⊢
        clear hW HB0 HZ0 HK
        have f0 := HBX.out.c0
        have HA := Lib.hid hA
        have HA' := Lib.hid hA'
        have HT1 := Lib.hid t1
        have HT2 := Lib.hid t2
        clear t1 t2 hA hA'
        go_wp2_with fail
        refine (HOP.out _).mono ?_
        rintro r w2 ⟨rfl, b2⟩
        have z2 : w.heap.size < w2.heap.size := by have := b2.size; omega
        have g1 := (HBX.out.below b2 z0).c1
        have g2 := (HBX.out.below b2 z0).c2
        have t1 := HT1.out.below b2 (by omega)
        have ha := t1.c0
        have hb := t1.c1
        have hc := t1.c2
        clear t1 f0
        have HI1 := Lib.hid (IH.out d x1 _ _ _ w2 (HA.out.below b2 hz) (by have := b2.size; omega))
        have HI2 : Hid (∀ W', Below W.heap.size W W' → Calls Tryd.prog 76 #[.agg #[x', y', z'], .int .i64 m] W' fun r w' => r = .returned (.bool (wholeF m x2)) ∧ Below W'.heap.size W' w') :=
          fun W' h' => IH.out d x2 _ _ _ W' (HA'.out.below h' hz) (Nat.le_trans hz h'.size)
        clear hz
        cases hv1 : wholeF m x1 with
        | false =>
          rw [hv1] at HI1 HV
          clear hv1
          go_wp2_with fail
          refine HI1.out.mono ?_
          rintro r w5 ⟨rfl, b5⟩
          go_wp2_with fail
          go_ret
          exact ⟨by rw [HV.out]; rfl, b0.trans ((b2.trans (b5.mono b2.size)).mono b0.size)⟩
        | true =>
          rw [hv1] at HI1 HV
          clear hv1
          go_wp2_with fail
          refine HI1.out.mono ?_
          rintro r w5 ⟨rfl, b5⟩
          have b6 := b2.trans (b5.mono b2.size)
          have g2' := (HBX.out.below b6 z0).c2
          have t5 := HT2.out.below b6 (by omega)
          have ha' : w5.cell? ⟨a.block, a.off + 3, none⟩ = some x' := t5.c0
          have hb' : w5.cell? ⟨a.block, a.off + 3 + 1, none⟩ = some y' := t5.c1
          have hc' : w5.cell? ⟨a.block, a.off + 3 + 2, none⟩ = some z' := t5.c2
          clear t5 g1 g2 ha hb hc
          go_wp2_with fail
          refine (HI2.out w5 b6).mono ?_
          rintro r w6 ⟨rfl, b7⟩
          go_wp2_with fail
          go_ret
          exact ⟨by rw [HV.out]; rfl, b0.trans ((b6.trans (b7.mono b6.size)).mono b0.size)⟩
    · have HV : Hid (wholeF (m + 1) (.node op n args) = false) := by show wholeF _ _ = _; rw [hv, both_no _ _ h2, Bool.and_false]
      have l2 : ((args.length : Int) == 2) = false := beq_eq_false_iff_ne.2 (by omega)
      have l0 : (n == 0) = true := by simp [h0]
      clear hv h2 h0 h4 h8 HK
      go_enter Tryd.func76, Tryd.ntmps76
      go_upto_region 10 with fail
      have b0 := HB0.out
      have z0 := HZ0.out
      have f0 := HBX.out.c0
      obtain ⟨W, hW⟩ : ∃ W, W = w.alloc (.cells #[.int .u8 op, .int .i64 n, .slice A args.length c] 25) := ⟨_, rfl⟩
      rw [← hW] at b0 z0 HBX f0 ⊢
      clear hW HB0 HZ0
      go_wp2_with fail
      refine (HOP.out _).mono ?_
      rintro r w2 ⟨rfl, b2⟩
      have g1 := (HBX.out.below b2 z0).c1
      have g2 := (HBX.out.below b2 z0).c2
      clear f0
      go_wp2_with fail
      go_ret
      exact ⟨by rw [HV.out]; rfl, b0.trans (b2.mono b0.size)⟩
  · have HV : Hid (wholeF (m + 1) (.node op n args) = false) := by show wholeF _ _ = _; rw [hv, decide_eq_false h0, Bool.false_and]
    have l0 : (n == 0) = false := beq_eq_false_iff_ne.2 h0
    clear hv h0 h4 h8 HK
    go_enter Tryd.func76, Tryd.ntmps76
    go_upto_region 10 with fail
    have b0 := HB0.out
    have z0 := HZ0.out
    have f0 := HBX.out.c0
    obtain ⟨W, hW⟩ : ∃ W, W = w.alloc (.cells #[.int .u8 op, .int .i64 n, .slice A args.length c] 25) := ⟨_, rfl⟩
    rw [← hW] at b0 z0 HBX f0 ⊢
    clear hW HB0 HZ0
    go_wp2_with fail
    refine (HOP.out _).mono ?_
    rintro r w2 ⟨rfl, b2⟩
    have g1 := (HBX.out.below b2 z0).c1
    clear f0
    go_wp2_with fail
    go_ret
    exact ⟨by rw [HV.out]; rfl, b0.trans (b2.mono b0.size)⟩

set_option maxRecDepth 100000 in
theorem whole_any (m : Nat) (hm : m ≤ 100) : ∀ (d : Nat) (e : Ex) (v : Value) (lo hi : Nat) (w : World), At w lo hi d v e → hi ≤ w.heap.size →
    Calls Tryd.prog 76 #[v, .int .i64 m] w fun r w' => r = .returned (.bool (wholeF m e)) ∧ Below w.heap.size w w' := by
  induction m with
  | zero =>
    intro d e v lo hi w h hhi
    obtain ⟨d, rfl⟩ : ∃ q, d = q + 1 := by
      cases d with
      | zero => exact h.elim
      | succ q => exact ⟨q, rfl⟩
    obtain ⟨op, n, args⟩ := e
    obtain ⟨q1, q2, q3, q4, A, c, rfl, hk⟩ := h.open_
    have HB0 : Hid (Below w.heap.size w (w.alloc (.cells #[.int .u8 op, .int .i64 n, .slice A args.length c] 25))) := by show Below _ _ _; go_grown
    clear hk h
    go_enter Tryd.func76, Tryd.ntmps76
    go_wp2_with fail
    go_ret
    exact ⟨rfl, HB0.out⟩
  | succ m ih =>
    intro d e v lo hi w h hhi
    obtain ⟨d, rfl⟩ : ∃ q, d = q + 1 := by
      cases d with
      | zero => exact h.elim
      | succ q => exact ⟨q, rfl⟩
    obtain ⟨op, n, args⟩ := e
    obtain ⟨q1, q2, q3, q4, A, c, rfl, hk⟩ := h.open_
    by_cases h4 : 4 ≤ op ∧ op ≤ 8
    · exact whole_ops m (by omega) op h4.1 h4.2 d n args A c lo hi w hk hhi q4 (ih (by omega))
    have HB0 : Hid (Below w.heap.size w (w.alloc (.cells #[.int .u8 op, .int .i64 n, .slice A args.length c] 25))) := by show Below _ _ _; go_grown
    clear hk h ih
    by_cases h1 : op = 1
    · have HV : Hid (wholeF (m + 1) (.node op n args) = decide (args.length = 0)) := by show wholeF _ _ = _; rw [wholeF, if_pos h1]
      have e1 : ((op : Int) == 1) = true := beq_iff_eq.2 (by omega)
      clear h1 h4
      by_cases l0 : args.length = 0
      · have HW := Lib.hid (decide_eq_true l0)
        have l1 : ((args.length : Int) == 0) = true := beq_iff_eq.2 (by omega)
        clear l0
        go_enter Tryd.func76, Tryd.ntmps76
        go_wp2_with fail
        go_ret
        exact ⟨by rw [HV.out, HW.out]; rfl, HB0.out⟩
      · have HW := Lib.hid (decide_eq_false l0)
        have l1 : ((args.length : Int) == 0) = false := beq_eq_false_iff_ne.2 (by omega)
        clear l0
        go_enter Tryd.func76, Tryd.ntmps76
        go_wp2_with fail
        go_ret
        exact ⟨by rw [HV.out, HW.out]; rfl, HB0.out⟩
    by_cases h2 : op = 2
    · have HV : Hid (wholeF (m + 1) (.node op n args) = decide (args.length = 0 ∧ 0 ≤ n ∧ n < 8)) := by show wholeF _ _ = _; rw [wholeF, if_neg h1, if_pos h2]
      have e1 : ((op : Int) == 1) = false := beq_eq_false_iff_ne.2 (by omega)
      have e2 : ((op : Int) == 2) = true := beq_iff_eq.2 (by omega)
      clear h1 h2 h4
      by_cases l0 : args.length = 0
      · have l1 : ((args.length : Int) == 0) = true := beq_iff_eq.2 (by omega)
        by_cases l2 : 0 ≤ n
        · by_cases l3 : n < 8
          · have HW := Lib.hid (decide_eq_true (show args.length = 0 ∧ 0 ≤ n ∧ n < 8 from ⟨l0, l2, l3⟩))
            clear l0
            go_enter Tryd.func76, Tryd.ntmps76
            go_wp2_with fail
            go_ret
            exact ⟨by rw [HV.out, HW.out]; rfl, HB0.out⟩
          · have HW := Lib.hid (decide_eq_false (show ¬ (args.length = 0 ∧ 0 ≤ n ∧ n < 8) from fun h => l3 h.2.2))
            have l4 : decide (n < 8) = false := decide_eq_false l3
            clear l0 l3
            go_enter Tryd.func76, Tryd.ntmps76
            go_wp2_with fail
            go_ret
            exact ⟨by rw [HV.out, HW.out]; rfl, HB0.out⟩
        · have HW := Lib.hid (decide_eq_false (show ¬ (args.length = 0 ∧ 0 ≤ n ∧ n < 8) from fun h => l2 h.2.1))
          have l4 : decide (0 ≤ n) = false := decide_eq_false l2
          clear l0 l2
          go_enter Tryd.func76, Tryd.ntmps76
          go_wp2_with fail
          go_ret
          exact ⟨by rw [HV.out, HW.out]; rfl, HB0.out⟩
      · have HW := Lib.hid (decide_eq_false (show ¬ (args.length = 0 ∧ 0 ≤ n ∧ n < 8) from fun h => l0 h.1))
        have l1 : ((args.length : Int) == 0) = false := beq_eq_false_iff_ne.2 (by omega)
        clear l0
        go_enter Tryd.func76, Tryd.ntmps76
        go_wp2_with fail
        go_ret
        exact ⟨by rw [HV.out, HW.out]; rfl, HB0.out⟩
    by_cases h3 : op = 3
    · have HV : Hid (wholeF (m + 1) (.node op n args) = decide (args.length = 0 ∧ 0 ≤ n ∧ n < 6)) := by show wholeF _ _ = _; rw [wholeF, if_neg h1, if_neg h2, if_pos h3]
      have e1 : ((op : Int) == 1) = false := beq_eq_false_iff_ne.2 (by omega)
      have e2 : ((op : Int) == 2) = false := beq_eq_false_iff_ne.2 (by omega)
      have e3 : ((op : Int) == 3) = true := beq_iff_eq.2 (by omega)
      clear h1 h2 h3 h4
      by_cases l0 : args.length = 0
      · have l1 : ((args.length : Int) == 0) = true := beq_iff_eq.2 (by omega)
        by_cases l2 : 0 ≤ n
        · by_cases l3 : n < 6
          · have HW := Lib.hid (decide_eq_true (show args.length = 0 ∧ 0 ≤ n ∧ n < 6 from ⟨l0, l2, l3⟩))
            clear l0
            go_enter Tryd.func76, Tryd.ntmps76
            go_wp2_with fail
            go_ret
            exact ⟨by rw [HV.out, HW.out]; rfl, HB0.out⟩
          · have HW := Lib.hid (decide_eq_false (show ¬ (args.length = 0 ∧ 0 ≤ n ∧ n < 6) from fun h => l3 h.2.2))
            have l4 : decide (n < 6) = false := decide_eq_false l3
            clear l0 l3
            go_enter Tryd.func76, Tryd.ntmps76
            go_wp2_with fail
            go_ret
            exact ⟨by rw [HV.out, HW.out]; rfl, HB0.out⟩
        · have HW := Lib.hid (decide_eq_false (show ¬ (args.length = 0 ∧ 0 ≤ n ∧ n < 6) from fun h => l2 h.2.1))
          have l4 : decide (0 ≤ n) = false := decide_eq_false l2
          clear l0 l2
          go_enter Tryd.func76, Tryd.ntmps76
          go_wp2_with fail
          go_ret
          exact ⟨by rw [HV.out, HW.out]; rfl, HB0.out⟩
      · have HW := Lib.hid (decide_eq_false (show ¬ (args.length = 0 ∧ 0 ≤ n ∧ n < 6) from fun h => l0 h.1))
        have l1 : ((args.length : Int) == 0) = false := beq_eq_false_iff_ne.2 (by omega)
        clear l0
        go_enter Tryd.func76, Tryd.ntmps76
        go_wp2_with fail
        go_ret
        exact ⟨by rw [HV.out, HW.out]; rfl, HB0.out⟩
    have HV : Hid (wholeF (m + 1) (.node op n args) = false) := by show wholeF _ _ = _; rw [wholeF, if_neg h1, if_neg h2, if_neg h3, if_neg (by omega)]
    have e1 : ((op : Int) == 1) = false := beq_eq_false_iff_ne.2 (by omega)
    have e2 : ((op : Int) == 2) = false := beq_eq_false_iff_ne.2 (by omega)
    have e3 : ((op : Int) == 3) = false := beq_eq_false_iff_ne.2 (by omega)
    have e4 : ((op : Int) == 4) = false := beq_eq_false_iff_ne.2 (by omega)
    have e5 : ((op : Int) == 5) = false := beq_eq_false_iff_ne.2 (by omega)
    have e6 : ((op : Int) == 6) = false := beq_eq_false_iff_ne.2 (by omega)
    have e7 : ((op : Int) == 7) = false := beq_eq_false_iff_ne.2 (by omega)
    have e8 : ((op : Int) == 8) = false := beq_eq_false_iff_ne.2 (by omega)
    have HOP : Hid (∀ w, Calls Tryd.prog 77 #[.int .u8 op] w fun r w' => r = .returned .nilFunc ∧ Below w.heap.size w w') := fun w => by
      have := oper_any op w q1
      have e : opFn op = .nilFunc := by unfold opFn; rw [if_neg (by omega), if_neg (by omega), if_neg (by omega), if_neg (by omega), if_neg (by omega)]
      rw [e] at this
      exact this
    have hne := neq_nil
    clear h1 h2 h3 h4
    go_enter Tryd.func76, Tryd.ntmps76
    go_upto_region 10 with fail
    have b0 := HB0.out
    obtain ⟨W, hW⟩ : ∃ W, W = w.alloc (.cells #[.int .u8 op, .int .i64 n, .slice A args.length c] 25) := ⟨_, rfl⟩
    have f0 := (Boxed.new w (.int .u8 op) (.int .i64 n) (.slice A args.length c)).c0
    rw [← hW] at b0 f0 ⊢
    clear hW HB0
    go_wp2_with fail
    refine (HOP.out _).mono ?_
    rintro r w2 ⟨rfl, b2⟩
    go_wp2_with fail
    go_ret
    exact ⟨by rw [HV.out]; rfl, b0.trans (b2.mono b0.size)⟩
end Go.Proofs.YtpgkhodofhnpnaaDoor
/-
  CONTRACTS OF PACKAGE expr's Whole, asksBelow, May, Count: what each answers of a tree in memory; the memory that was there stays as it was. Conditions: as they stand.
-/
namespace Go.Proofs.YtpgkhodofhnpnaaDoor
set_option maxRecDepth 100000
open Go.RowKit
set_option linter.unusedVariables false
theorem At.form {w : World} {lo hi d : Nat} {x y z : Value} {e : Ex} (h : At w lo hi d (.agg #[x, y, z]) e) : ∃ (o : Nat) (n : Int) (A : Option Addr) (l c : Nat), x = .int .u8 o ∧ y = .int .i64 n ∧ z = .slice A l c := by
  cases d with
  | zero => exact h.elim
  | succ d =>
    obtain ⟨op, n, args⟩ := e
    obtain ⟨q1, q2, q3, q4, A, c, hv, hk⟩ := h.open_
    simp only [Value.agg.injEq, Array.mk.injEq, List.cons.injEq, and_true] at hv
    exact ⟨_, _, _, _, _, hv.1, hv.2.1, hv.2.2⟩
set_option maxRecDepth 100000 in
theorem Whole_any (d : Nat) (e : Ex) (v : Value) (lo hi : Nat) (w : World) (h : At w lo hi d v e) (hhi : hi ≤ w.heap.size) :
    Calls Tryd.prog 74 #[v] w fun r w' => r = .returned (.bool (wholeF 6 e)) ∧ Below w.heap.size w w' := by
  obtain ⟨d, rfl⟩ : ∃ q, d = q + 1 := by
    cases d with
    | zero => exact h.elim
    | succ q => exact ⟨q, rfl⟩
  obtain ⟨op, n, args⟩ := e
  have hh := h
  obtain ⟨q1, q2, q3, q4, A, c, rfl, hk⟩ := h.open_
  have b0 := boxed_below w (.int .u8 op) (.int .i64 n) (.slice A args.length c)
  have HM := Lib.hid (whole_any 6 (by omega) (d + 1) _ _ lo hi _ (hh.below b0 hhi) (by simp; omega))
  have HB0 := Lib.hid b0
  clear hk hh h b0
  go_enter Tryd.func74, Tryd.ntmps74
  go_wp2_with fail
  refine HM.out.mono ?_
  rintro r w5 ⟨rfl, b5⟩
  go_wp2_with fail
  go_ret
  exact ⟨rfl, HB0.out.trans (b5.mono HB0.out.size)⟩

set_option maxRecDepth 100000 in
theorem below_any (d : Nat) (m : Int) (hm0 : -9223372036854775808 ≤ m) (hm1 : m < 9223372036854775808) : ∀ (e : Ex) (v : Value) (lo hi : Nat) (w : World), At w lo hi d v e → hi ≤ w.heap.size →
    Calls Tryd.prog 75 #[v, .int .i64 m] w fun r w' => r = .returned (.bool (belowF d e m)) ∧ Below w.heap.size w w' := by
  induction d with
  | zero => intro e v lo hi w h; exact h.elim
  | succ d ih =>
    intro e v lo hi w h hhi
    obtain ⟨op, n, args⟩ := e
    obtain ⟨q1, q2, q3, q4, A, c, rfl, hk⟩ := h.open_
    have HK := Lib.hid hk
    have IH := Lib.hid ih
    have hbox := Boxed.new w (.int .u8 op) (.int .i64 n) (.slice A args.length c)
    have b0 : Below w.heap.size w (w.alloc (.cells #[.int .u8 op, .int .i64 n, .slice A args.length c] 25)) := by go_grown
    have z0 : w.heap.size < (w.alloc (.cells #[.int .u8 op, .int .i64 n, .slice A args.length c] 25)).heap.size := by simp
    have hlen : args.length ≤ 9223372036854775807 := q4
    clear hk ih q4 h
    by_cases hbad : op = 3 ∧ m ≤ n
    · have hv : belowF (d + 1) (.node op n args) m = false := by simp [belowF, hbad.1, hbad.2]
      have HV := Lib.hid hv
      obtain ⟨e1, e2⟩ := hbad
      have t1 : ((op : Int) == 3) = true := by simp; omega
      have HB0 := Lib.hid b0
      clear hv e1 hbox z0 b0
      go_enter Tryd.func75, Tryd.ntmps75
      go_wp2_with fail
      go_ret
      exact ⟨by rw [HV.out]; rfl, HB0.out⟩
    · have hv : belowF (d + 1) (.node op n args) m = args.all fun e => belowF d e m := by
        rw [belowF]
        by_cases e1 : op = 3
        · rw [decide_eq_true e1, decide_eq_false (fun h => hbad ⟨e1, h⟩)]; rfl
        · rw [decide_eq_false e1]; rfl
      have HV := Lib.hid hv
      have ht : ((op : Int) == 3) = false ∨ (((op : Int) == 3) = true ∧ decide (m ≤ n) = false) := by
        by_cases e1 : op = 3
        · exact .inr ⟨by simp; omega, decide_eq_false (fun h => hbad ⟨e1, h⟩)⟩
        · exact .inl (by simp; omega)
      have HBX := Lib.hid hbox
      have HB0 := Lib.hid b0
      have HZ0 := Lib.hid z0
      clear hv hbad hbox b0 z0
      rcases ht with t1 | ⟨t1, t2⟩
      all_goals
        go_enter Tryd.func75, Tryd.ntmps75
        go_wp2_with fail
        have b0 := HB0.out
        have z0 := HZ0.out
        obtain ⟨W, hW⟩ : ∃ W, W = w.alloc (.cells #[.int .u8 op, .int .i64 n, .slice A args.length c] 25) := ⟨_, rfl⟩
        have hbx1 : Hid (Boxed W w.heap.size (.int .u8 op) (.int .i64 n) (.slice A args.length c)) := by rw [hW]; exact HBX.out
        rw [← hW] at b0 z0 ⊢
        have HK2 := Lib.hid (HK.out.below b0 hhi)
        clear hW HK HB0 HZ0 HBX
        go_loopw [19] (fun i wr => ∃ k : Nat, k ≤ args.length ∧ i = .int .i64 k ∧ Hid ((args.all fun e => belowF d e m) = (args.drop k).all fun e => belowF d e m) ∧ Below W.heap.size W wr) (fun i _ => args.length - (intOf i).toNat)
        case atStart => exact ⟨0, by omega, rfl, rfl, Below.refl _ _⟩
        case round =>
          obtain ⟨k, hk, rfl, hall, hb⟩ := hrel
          have f2 := (hbx1.out.below hb z0).c2
          by_cases hlt : k < args.length
          · obtain ⟨a, x, y, z, rfl, m1, m2, g0, g1, g2, hA⟩ := HK2.out.below hb (by omega) k hlt
            obtain ⟨o', n', A', l', c', rfl, rfl, rfl⟩ := hA.form
            have bx := boxed_below wr (.int .u8 o') (.int .i64 n') (.slice A' l' c')
            have HI := Lib.hid (IH.out args[k] _ _ _ _ (hA.below bx (by have := hb.size; omega)) (by have := hb.size; have := bx.size; omega))
            have HX := Lib.hid bx
            clear bx
            have hd : (args.drop k).all (fun e => belowF d e m) = (belowF d args[k] m && (args.drop (k + 1)).all fun e => belowF d e m) := by rw [List.drop_eq_getElem_cons hlt]; rfl
            rw [hd] at hall
            clear hA hd
            cases hj : belowF d args[k] m with
            | true =>
              rw [hj] at HI hall
              have HA2 : Hid ((args.all fun e => belowF d e m) = (args.drop (k + 1)).all fun e => belowF d e m) := hall
              clear hj hall
              go_wp2_with fail
              refine HI.out.mono ?_
              rintro r w5 ⟨rfl, b5⟩
              go_wp2_with fail
              go_roundw
              case rel => exact ⟨k + 1, by omega, by go_num, HA2, hb.trans ((HX.out.trans (b5.mono HX.out.size)).mono hb.size)⟩
              case measure => simp [intOf]; omega
            | false =>
              rw [hj] at HI hall
              have HA2 : Hid ((args.all fun e => belowF d e m) = false) := hall
              clear hj hall
              go_wp2_with fail
              refine HI.out.mono ?_
              rintro r w5 ⟨rfl, b5⟩
              go_wp2_with fail
              go_ret
              exact ⟨by rw [HV.out, HA2.out]; rfl, b0.trans ((hb.trans ((HX.out.trans (b5.mono HX.out.size)).mono hb.size)).mono b0.size)⟩
          · go_wp2_with fail
            go_ret
            refine ⟨?_, b0.trans (hb.mono b0.size)⟩
            rw [HV.out, hall.out, List.drop_eq_nil_of_le (by omega)]
            rfl

set_option maxRecDepth 100000 in
theorem may_any (d : Nat) (e : Ex) (v : Value) (lo hi : Nat) (m : Int) (hm0 : -9223372036854775808 ≤ m) (hm1 : m < 9223372036854775808) (w : World) (h : At w lo hi d v e) (hhi : hi ≤ w.heap.size) :
    Calls Tryd.prog 73 #[v, .int .i64 m] w fun r w' => r = .returned (.bool (wholeF 6 e && belowF d e m)) ∧ Below w.heap.size w w' := by
  obtain ⟨d, rfl⟩ : ∃ q, d = q + 1 := by
    cases d with
    | zero => exact h.elim
    | succ q => exact ⟨q, rfl⟩
  obtain ⟨op, n, args⟩ := e
  have hh := h
  obtain ⟨q1, q2, q3, q4, A, c, rfl, hk⟩ := h.open_
  have b0 := boxed_below w (.int .u8 op) (.int .i64 n) (.slice A args.length c)
  have hbx := Boxed.new w (.int .u8 op) (.int .i64 n) (.slice A args.length c)
  have z0 : w.heap.size < (w.alloc (.cells #[.int .u8 op, .int .i64 n, .slice A args.length c] 25)).heap.size := by simp
  have hA := hh.below b0 hhi
  have HM := Lib.hid (Whole_any (d + 1) _ _ lo hi _ hA (by simp; omega))
  have HN : Hid (∀ W', Below (w.alloc (.cells #[.int .u8 op, .int .i64 n, .slice A args.length c] 25)).heap.size (w.alloc (.cells #[.int .u8 op, .int .i64 n, .slice A args.length c] 25)) W' → Calls Tryd.prog 75 #[.agg #[.int .u8 op, .int .i64 n, .slice A args.length c], .int .i64 m] W' fun r w' => r = .returned (.bool (belowF (d + 1) (.node op n args) m)) ∧ Below W'.heap.size W' w') :=
    fun W' h' => below_any (d + 1) m hm0 hm1 _ _ lo hi W' (hA.below h' (by simp; omega)) (by have := h'.size; simp at this; omega)
  have HB0 := Lib.hid b0
  have HBX := Lib.hid hbx
  have HZ0 := Lib.hid z0
  obtain ⟨e, he⟩ : ∃ e, e = Ex.node op n args := ⟨_, rfl⟩
  rw [← he] at HM HN ⊢
  clear hk hh h b0 hbx z0 hA he
  cases hv : wholeF 6 e with
  | false =>
    rw [hv] at HM
    clear hv
    go_enter Tryd.func73, Tryd.ntmps73
    go_wp2_with fail
    refine HM.out.mono ?_
    rintro r w5 ⟨rfl, b5⟩
    go_wp2_with fail
    go_ret
    exact ⟨rfl, HB0.out.trans (b5.mono HB0.out.size)⟩
  | true =>
    rw [hv] at HM
    clear hv
    go_enter Tryd.func73, Tryd.ntmps73
    go_wp2_with fail
    refine HM.out.mono ?_
    rintro r w5 ⟨rfl, b5⟩
    have g0 := (HBX.out.below b5 HZ0.out).c0
    have g1 := (HBX.out.below b5 HZ0.out).c1
    have g2 := (HBX.out.below b5 HZ0.out).c2
    go_wp2_with fail
    refine (HN.out w5 b5).mono ?_
    rintro r w6 ⟨rfl, b6⟩
    go_wp2_with fail
    go_ret
    exact ⟨rfl, HB0.out.trans ((b5.trans (b6.mono b5.size)).mono HB0.out.size)⟩

set_option maxRecDepth 100000 in
theorem count_any (d : Nat) : ∀ (e : Ex) (v : Value) (lo hi : Nat) (w : World), At w lo hi d v e → hi ≤ w.heap.size → cnt d e ≤ 100000 →
    Calls Tryd.prog 72 #[v] w fun r w' => r = .returned (.int .i64 (cnt d e : Nat)) ∧ Below w.heap.size w w' := by
  induction d with
  | zero => intro e v lo hi w h; exact h.elim
  | succ d ih =>
    intro e v lo hi w h hhi hc
    obtain ⟨op, n, args⟩ := e
    obtain ⟨q1, q2, q3, q4, A, c, rfl, hk⟩ := h.open_
    have HK := Lib.hid hk
    have IH := Lib.hid ih
    have hbox := Lib.hid (Boxed.new w (.int .u8 op) (.int .i64 n) (.slice A args.length c))
    have hsum : 1 + (args.map (cnt d)).sum ≤ 100000 := hc
    have hlen : args.length ≤ 9223372036854775807 := q4
    clear hk ih hc q4 h
    go_enter Tryd.func72, Tryd.ntmps72
    go_wp2_with fail
    have b0 : Below w.heap.size w (w.alloc (.cells #[.int .u8 op, .int .i64 n, .slice A args.length c] 25)) := by go_grown
    have z0 : w.heap.size < (w.alloc (.cells #[.int .u8 op, .int .i64 n, .slice A args.length c] 25)).heap.size := by simp
    obtain ⟨W, hW⟩ : ∃ W, W = w.alloc (.cells #[.int .u8 op, .int .i64 n, .slice A args.length c] 25) := ⟨_, rfl⟩
    rw [← hW] at b0 z0 hbox ⊢
    have HK2 := Lib.hid (HK.out.below b0 hhi)
    clear hW HK
    go_loopw [3, 9] (fun a i wr => ∃ k : Nat, k ≤ args.length ∧ i = .int .i64 k ∧ a = .int .i64 (1 + ((args.take k).map (cnt d)).sum : Nat) ∧ Below W.heap.size W wr) (fun _ i _ => args.length - (intOf i).toNat)
    case atStart => exact ⟨0, by omega, rfl, rfl, Below.refl _ _⟩
    case round =>
      obtain ⟨k, hk, rfl, rfl, hb⟩ := hrel
      have hbx := hbox.out.below hb z0
      have f2 := hbx.c2
      clear hbx
      by_cases hlt : k < args.length
      · obtain ⟨a, x, y, z, rfl, m1, m2, g0, g1, g2, hA⟩ := HK2.out.below hb (by omega) k hlt
        have s1 := sum_take (cnt d) args k hlt
        have s2 := sum_le (cnt d) args (k + 1)
        obtain ⟨o', n', A', l', c', rfl, rfl, rfl⟩ := hA.form
        have bx := boxed_below wr (.int .u8 o') (.int .i64 n') (.slice A' l' c')
        have HI := Lib.hid (IH.out args[k] _ _ _ _ (hA.below bx (by have := hb.size; omega)) (by have := hb.size; have := bx.size; omega) (by omega))
        have HX := Lib.hid bx
        clear bx
        obtain ⟨j, hj⟩ : ∃ j, j = cnt d args[k] := ⟨_, rfl⟩
        obtain ⟨u, hu⟩ : ∃ u, u = ((args.take k).map (cnt d)).sum := ⟨_, rfl⟩
        rw [← hj] at s1 HI
        rw [← hu] at s1 ⊢
        have k1 : u + j ≤ 100000 := by omega
        have HS := Lib.hid s1
        clear s1 s2 hj hu hA
        go_wp2_with fail
        refine HI.out.mono ?_
        rintro r w5 ⟨rfl, b5⟩
        go_wp2_with fail
        go_roundw
        case rel => exact ⟨k + 1, by omega, by go_num, by rw [HS.out]; go_num, hb.trans ((HX.out.trans (b5.mono HX.out.size)).mono hb.size)⟩
        case measure => simp [intOf]; omega
      · go_wp2_with fail
        go_ret
        refine ⟨?_, b0.trans (hb.mono b0.size)⟩
        rw [cnt, ← List.take_of_length_le (show args.length ≤ k by omega)]
        exact ret_n (by rw [List.take_take, Nat.min_self])

end Go.Proofs.YtpgkhodofhnpnaaDoor
/-
  CONTRACT OF PACKAGE expr's Copy: the same tree, in new memory; the memory that was there stays as it was. Condition: trees of at most 100000 parts.
-/
namespace Go.Proofs.YtpgkhodofhnpnaaDoor
set_option maxRecDepth 100000
open Go.RowKit
set_option linter.unusedVariables false
/-- The cells of so many expressions that are nothing. -/
def noneCells (n : Nat) : Array Value := madeCells (Value.agg #[.int .u8 0, .int .i64 0, .slice none 0 0]).cells (n * 3)
theorem none_size (n : Nat) : (noneCells n).size = n * 3 := size_madeCells _ _
theorem make_any (n : Nat) (hn : n ≤ 100000) (W : World) : (Instr.makeSlice 23 (.int .i64 (n : Int)) (.int .i64 (n : Int))).run Tryd.prog W = .ok (.slice (some ⟨W.heap.size, 0, none⟩) n n) (W.alloc (.cells (noneCells n) 25)) := by
  obtain ⟨i, hi, hz, h3, hb⟩ := info_parts expr_info
  have hr := run_make (P := Tryd.prog) W 23 25 i _ Tryd.underlying23 hi hz .i64 .i64 n n (by omega) (by omega) (by rw [hb]; omega) (by omega)
  simp only [Int.toNat_natCast, h3] at hr
  exact hr
theorem eqIn_slice (d : Nat) (b : Option Addr) (l c : Nat) (w : World) : (Op.equalIn (d + 1) 23 (.slice b l c) (.slice none 0 0)).run Tryd.prog w = .ok b.isNone w := by
  cases b <;> simp [Op.equalIn, run_underlying Tryd.underlying23]
theorem eq_slice (b : Option Addr) (l c : Nat) (w : World) : (Op.equal 23 (.slice b l c) (.slice none 0 0)).run Tryd.prog w = .ok b.isNone w := eqIn_slice 9999 b l c w
theorem eql_slice (b : Option Addr) (l c : Nat) (w : World) : (Go.binOp .eql 23 (.slice b l c) (.slice none 0 0)).run Tryd.prog w = .ok (.bool b.isNone) w := by
  simp only [Go.binOp]
  simp [eq_slice]
/-- How things are behind k parts. -/
structure CI (W1 : World) (H0 : Nat) (args : List Ex) (d k : Nat) (xs : Array Value) (wr : World) : Prop where
  row : wr.heap[H0 + 2]? = some (.cells xs 25 (0, 0))
  len : xs.size = args.length * 3
  parts : ∀ j (hj : j < k) (h : j < args.length), ∃ x y z, xs[j * 3]? = some x ∧ xs[j * 3 + 1]? = some y ∧ xs[j * 3 + 2]? = some z ∧ AtS wr (fun b => H0 + 3 ≤ b ∧ b < wr.heap.size) d (.agg #[x, y, z]) args[j]
  low : Below (H0 + 2) W1 wr
  size : H0 + 3 ≤ wr.heap.size
theorem row_cell {w : World} {g i : Nat} {xs : Array Value} {t : TypeId} (h : w.heap[g]? = some (.cells xs t (0, 0))) (hi : i < xs.size) : ∃ u, w.cell? ⟨g, i, none⟩ = some u := by
  refine ⟨xs[i], ?_⟩
  simp [World.cell?, h, Array.getElem?_eq_getElem hi]
theorem row_free {w : World} {g i : Nat} {xs : Array Value} {t : TypeId} (h : w.heap[g]? = some (.cells xs t (0, 0))) : w.frozen? ⟨g, i, none⟩ = false := by simp [World.frozen?, h]
/-- One part more. -/
theorem CI.step {W1 wr w4 w5 : World} {H0 : Nat} {args : List Ex} {d k : Nat} {xs : Array Value} {x y z : Value} (inv : CI W1 H0 args d k xs wr) (hk : k < args.length) (b4 : Below wr.heap.size wr w4) (b5 : Below w4.heap.size w4 w5) (hA : At w5 w4.heap.size w5.heap.size d (.agg #[x, y, z]) args[k]) :
    CI W1 H0 args d (k + 1) (((xs.setIfInBounds (k * 3) x).setIfInBounds (k * 3 + 1) y).setIfInBounds (k * 3 + 2) z) (((w5.setCell ⟨H0 + 2, k * 3, none⟩ x).setCell ⟨H0 + 2, k * 3 + 1, none⟩ y).setCell ⟨H0 + 2, k * 3 + 2, none⟩ z) := by
  have hs := inv.size
  have hl := inv.len
  have hb := b4.trans (b5.mono b4.size)
  have hz := hb.size
  have h4 := b4.size
  have h5 := b5.size
  have r5 := (hb.block (H0 + 2) (by omega)).trans inv.row
  have r8 := heap_set_same _ _ (k * 3 + 2) z _ _ (heap_set_same _ _ (k * 3 + 1) y _ _ (heap_set_same w5 (H0 + 2) (k * 3) x _ _ r5))
  have hold : ∀ b, b ≠ H0 + 2 → (((w5.setCell ⟨H0 + 2, k * 3, none⟩ x).setCell ⟨H0 + 2, k * 3 + 1, none⟩ y).setCell ⟨H0 + 2, k * 3 + 2, none⟩ z).heap[b]? = w5.heap[b]? := fun b hb => by
    rw [heap_set_other _ _ _ _ _ hb, heap_set_other _ _ _ _ _ hb, heap_set_other _ _ _ _ _ hb]
  have hsz : (((w5.setCell ⟨H0 + 2, k * 3, none⟩ x).setCell ⟨H0 + 2, k * 3 + 1, none⟩ y).setCell ⟨H0 + 2, k * 3 + 2, none⟩ z).heap.size = w5.heap.size := by simp
  refine ⟨r8, by simp [hl], ?_, ?_, by rw [hsz]; omega⟩
  · intro j hj h
    by_cases hjk : j < k
    · obtain ⟨x', y', z', i1, i2, i3, hA'⟩ := inv.parts j hjk h
      refine ⟨x', y', z', ?_, ?_, ?_, hA'.keep ?_ ?_ d⟩
      · rw [Array.getElem?_setIfInBounds_ne (by omega), Array.getElem?_setIfInBounds_ne (by omega), Array.getElem?_setIfInBounds_ne (by omega)]; exact i1
      · rw [Array.getElem?_setIfInBounds_ne (by omega), Array.getElem?_setIfInBounds_ne (by omega), Array.getElem?_setIfInBounds_ne (by omega)]; exact i2
      · rw [Array.getElem?_setIfInBounds_ne (by omega), Array.getElem?_setIfInBounds_ne (by omega), Array.getElem?_setIfInBounds_ne (by omega)]; exact i3
      · rintro b ⟨c1, c2⟩
        exact ⟨c1, by rw [hsz]; omega⟩
      · rintro p ⟨c1, c2⟩
        refine World.cell?_of_block ?_
        rw [hold _ (by omega)]
        exact hb.block _ c2
    · obtain rfl : j = k := by omega
      refine ⟨x, y, z, ?_, ?_, ?_, (hA.toS d).keep ?_ ?_ d⟩
      · rw [Array.getElem?_setIfInBounds_ne (by omega), Array.getElem?_setIfInBounds_ne (by omega), Array.getElem?_setIfInBounds_self_of_lt (by omega)]
      · rw [Array.getElem?_setIfInBounds_ne (by omega), Array.getElem?_setIfInBounds_self_of_lt (by simp; omega)]
      · rw [Array.getElem?_setIfInBounds_self_of_lt (by simp; omega)]
      · rintro b ⟨c1, c2⟩
        exact ⟨by omega, by rw [hsz]; exact c2⟩
      · rintro p ⟨c1, c2⟩
        refine World.cell?_of_block ?_
        rw [hold _ (by omega)]
  · exact (((inv.low.trans (hb.mono (by omega))).setCell (by show H0 + 2 ≤ H0 + 2; omega) _).setCell (by show H0 + 2 ≤ H0 + 2; omega) _).setCell (by show H0 + 2 ≤ H0 + 2; omega) _
/-- What lies there at the end. -/
theorem CI.done {W1 wr W' : World} {H0 op : Nat} {n : Int} {args : List Ex} {d c' : Nat} {xs : Array Value} (inv : CI W1 H0 args d args.length xs wr) (hs : W'.heap.size = wr.heap.size) (hb : ∀ b, H0 + 2 ≤ b → W'.heap[b]? = wr.heap[b]?)
    (q1 : op < 256) (q2 : -9223372036854775808 ≤ n) (q3 : n < 9223372036854775808) (q4 : args.length ≤ 9223372036854775807) :
    At W' H0 W'.heap.size (d + 1) (.agg #[.int .u8 op, .int .i64 n, .slice (some ⟨H0 + 1 + 1, 0, none⟩) args.length c']) (.node op n args) := by
  refine ⟨q1, q2, q3, q4, _, c', rfl, fun k hk => ?_⟩
  obtain ⟨x, y, z, i1, i2, i3, hA⟩ := inv.parts k hk hk
  have hz := inv.size
  have hc : ∀ j u, xs[j]? = some u → W'.cell? ⟨H0 + 1 + 1, j, none⟩ = some u := fun j u hu => by
    have hr := (hb (H0 + 1 + 1) (by omega)).trans inv.row
    simpa [World.cell?, hr] using hu
  refine ⟨⟨H0 + 1 + 1, 0, none⟩, x, y, z, rfl, by show H0 ≤ H0 + 1 + 1; omega, by show H0 + 1 + 1 < _; omega, ?_, ?_, ?_, (hA.keep (S' := fun b => H0 ≤ b ∧ b < W'.heap.size) (fun b hb => ⟨by omega, by omega⟩) (fun p hp => World.cell?_of_block (hb _ (by omega))) d).toAt (fun b hb => hb) d⟩
  · rw [row_add]; exact hc _ _ i1
  · rw [row_add]; exact hc _ _ i2
  · rw [row_add]; exact hc _ _ i3
/-- What Copy leaves, and where its parts lie. -/
def Copied2 (w : World) (d : Nat) (e : Ex) (r : Ending) (w' : World) : Prop := Copied w d e r w' ∧
  (e.args = [] ∨ ∃ o n c, r = .returned (.agg #[o, n, .slice (some ⟨w.heap.size + 2, 0, none⟩) e.args.length c]) ∧ w.heap.size + 2 < w'.heap.size ∧ ∃ xs, w'.heap[w.heap.size + 2]? = some (.cells xs 25 (0, 0)) ∧ xs.size = e.args.length * 3)
end Go.Proofs.YtpgkhodofhnpnaaDoor
