/-
  WORDS FOR A COPY: trees appended one by one to a row of the call's own: how things are behind k parts, and what lies there at the end. Conditions: as they stand.
-/
import Derived.Test.YtokhcogmoleocaaEb
import Derived.Deep.AppendLies
import Derived.Deep.RegionLaw
namespace Go.Proofs.Ytokhcogmoleocaa
set_option maxRecDepth 100000
open Go.RowKit
set_option linter.unusedVariables false
theorem At.cnt_pos {w : World} {lo hi : Nat} (d : Nat) {v : Value} {e : Ex} (h : At w lo hi d v e) : 1 ≤ cnt d e := by
  cases d with
  | zero => exact h.elim
  | succ d =>
    obtain ⟨op, n, args⟩ := e
    rw [cnt]
    omega
theorem Kids.pos {w : World} {lo hi d : Nat} {A : Option Addr} {args : List Ex} (h : Kids w lo hi d A args) : ∀ e ∈ args, 1 ≤ cnt d e := by
  intro e he
  obtain ⟨k, hk, rfl⟩ := List.getElem_of_mem he
  obtain ⟨a, x, y, z, rfl, m1, m2, g0, g1, g2, hA⟩ := h k hk
  exact hA.cnt_pos
theorem len_sum {f : Ex → Nat} (l : List Ex) (h : ∀ e ∈ l, 1 ≤ f e) : l.length ≤ (l.map f).sum := by
  induction l with
  | nil => simp
  | cons e r ih =>
    have := ih fun x hx => h x (List.mem_cons_of_mem _ hx)
    have := h e (List.mem_cons_self ..)
    rw [List.map_cons, List.sum_cons, List.length_cons]
    omega
theorem boxed_at {w : World} {lo hi d : Nat} {v : Value} {e : Ex} (h : At w lo hi d v e) : ∃ x y z, v = .agg #[x, y, z] := by
  cases d with
  | zero => exact h.elim
  | succ d =>
    obtain ⟨op, n, args⟩ := e
    obtain ⟨q1, q2, q3, q4, A, c, rfl, hk⟩ := h.open_
    exact ⟨_, _, _, rfl⟩
theorem one5 {w : World} {lo hi d : Nat} {x y z : Value} {e : Ex} (h : At w lo hi d (.agg #[x, y, z]) e) : ∀ u ∈ [x, y, z], u.oneCell' = true := by
  cases d with
  | zero => exact h.elim
  | succ d =>
    obtain ⟨op, n, args⟩ := e
    obtain ⟨q1, q2, q3, q4, A, c, hv, hk⟩ := h.open_
    simp only [Value.agg.injEq, Array.mk.injEq, List.cons.injEq, and_true] at hv
    obtain ⟨rfl, rfl, rfl⟩ := hv
    simp [Value.oneCell']
theorem own5 {w w5 : World} {base : Nat} {e : TypeId} {size n : Nat} {v : Value} {xs : List Value} (h : w.ownsRow base e size v n xs) (b5 : Below w.drew.heap.size w.drew w5) : w5.ownsRow base e size v n xs :=
  h.kept (row := none) ⟨b5.os, b5.tape, b5.output, b5.size, fun i hi _ => b5.block i hi⟩ (by cases hv : v.ownBlock <;> simp)
theorem size5 {w w5 : World} {B : Nat} {o : Obj} (h : B ≤ w.heap.size) (b5 : Below w.drew.heap.size w.drew w5) : B ≤ (w5.alloc o).heap.size := by
  have := b5.size
  simp at this ⊢
  omega
theorem own_ge {w : World} {base : Nat} {e : TypeId} {size n : Nat} {v : Value} {xs : List Value} (h : w.ownsRow base e size v n xs) {b : Nat} (hb : b < base) : some b ≠ v.ownBlock := by
  intro hc
  have := h.lt b hc.symm
  omega
theorem size6 {w w5 : World} {B : Nat} (h : B ≤ w.heap.size) (b5 : Below w.drew.heap.size w.drew w5) : B ≤ w5.heap.size := by
  have := b5.size
  simp at this
  omega
theorem low_grown {w w5 w1 : World} {B base : Nat} {e : TypeId} {size n : Nat} {v : Value} {xs : List Value} {o : Obj} (h : Below B w w5) (hz : B ≤ w5.heap.size) (own : w.ownsRow base e size v n xs) (hb : B ≤ base) (hg : (w5.alloc o).grownBy w1 v.ownBlock) : Below B w w1 :=
  ⟨hg.os.trans h.os, hg.tape.trans h.tape, hg.output.trans h.output, by have := hg.size; have := h.size; simp at *; omega, fun i hi => (hg.block i (by simp; omega) (by
    intro hc
    have := own.lt i hc.symm
    omega)).trans ((heap_alloc_old w5 o (by omega)).trans (h.block i hi))⟩
theorem far_free {w w5 w1 : World} {H0 : Nat} {e t : TypeId} {size n : Nat} {v : Value} {xs : List Value} {o : Obj} {cs : Array Value} (hz : H0 + 3 ≤ w5.heap.size) (own : w.ownsRow (H0 + 3) e size v n xs) (hb : w.heap[H0 + 2]? = some (.cells cs t (0, 0)))
    (b5 : Below w.drew.heap.size w.drew w5) (hg : (w5.alloc o).grownBy w1 v.ownBlock) : w1.frozen? ⟨H0 + 1 + 1, 2, none⟩ = false := by
  have h1 : w1.heap[H0 + 2]? = some (.cells cs t (0, 0)) := by
    rw [hg.block (H0 + 2) (by simp; omega) (fun hc => by have := own.lt _ hc.symm; omega), heap_alloc_old w5 o (by omega), b5.block (H0 + 2) (by simpa using lt_of_block hb)]
    exact hb
  simp [World.frozen?, h1]
theorem low_grown3 {w w5 w1 : World} {H0 : Nat} {e : TypeId} {size n : Nat} {v : Value} {xs : List Value} {o : Obj} (h : Below (H0 + 1) w w5) (hz : H0 + 3 ≤ w5.heap.size) (own : w.ownsRow (H0 + 3) e size v n xs) (hg : (w5.alloc o).grownBy w1 v.ownBlock) : Below (H0 + 1) w w1 :=
  low_grown h (by omega) own (by omega) hg
theorem far_cell3 {w w5 w1 : World} {H0 : Nat} {e : TypeId} {size n : Nat} {v u : Value} {xs : List Value} {o : Obj} (hz : H0 + 3 ≤ w5.heap.size) (own : w.ownsRow (H0 + 3) e size v n xs) (hg : (w5.alloc o).grownBy w1 v.ownBlock) (hc : (w5.alloc o).cell? ⟨H0 + 1 + 1, 2, none⟩ = some u) : w1.cell? ⟨H0 + 1 + 1, 2, none⟩ = some u :=
  (hg.cell_far ⟨H0 + 1 + 1, 2, none⟩ (by show H0 + 1 + 1 < _; simp; omega) (own_ge own (by show H0 + 1 + 1 < _; omega))).trans hc
/-- What Copy leaves. -/
def Copied (w : World) (d : Nat) (e : Ex) (r : Ending) (w' : World) : Prop := ∃ v, r = .returned v ∧ At w' w.heap.size w'.heap.size d v e ∧ Below w.heap.size w w'

theorem heap_set_other (w : World) (g i : Nat) (u : Value) (b : Nat) (h : b ≠ g) : (w.setCell ⟨g, i, none⟩ u).heap[b]? = w.heap[b]? := by
  show (w.heap.modify g _)[b]? = _
  rw [Array.getElem?_modify, if_neg (by omega)]
theorem heap_set_same (w : World) (g i : Nat) (u : Value) (cs : Array Value) (t : TypeId) (h : w.heap[g]? = some (.cells cs t (0, 0))) : (w.setCell ⟨g, i, none⟩ u).heap[g]? = some (.cells (cs.setIfInBounds i u) t (0, 0)) := by
  have hl : g < w.heap.size := lt_of_block h
  have h' : w.heap[g] = .cells cs t (0, 0) := by simpa [Array.getElem?_eq_getElem hl] using h
  show (w.heap.modify g _)[g]? = _
  rw [Array.getElem?_eq_getElem (by simpa using hl), Array.getElem_modify_self, h']
  rfl
theorem row_add (g m : Nat) : (⟨g, 0, none⟩ : Addr).add m = ⟨g, m, none⟩ := by unfold Addr.add; split <;> simp_all
end Go.Proofs.Ytokhcogmoleocaa
