/-
  PACKAGE event's parts: the things that a Kind has as they lie; one law an operation of the region that lays the array of all Kinds' lists. Conditions: as they stand.
-/
import Derived.Test.YtkfcglgikemefaaDoorWe
import Derived.Test.YtkfcglgikemefaaDoorRt
namespace Go.Proofs.YtkfcglgikemefaaDoor
set_option maxRecDepth 100000
open Go.RowKit
set_option linter.unusedVariables false
/-- The method that tells where a number is. -/
def fnP : Nat → Nat
  | 0 => 93
  | 1 => 95
  | 2 => 94
  | 3 => 96
  | _ => 97
def partV (p : Part) : Value := .agg #[.func (.func (fnP p.wh)) #[] #[], .int .i64 p.lo, .int .i64 p.hi]
def partC (p : Part) : List Value := [.func (.func (fnP p.wh)) #[] #[], .int .i64 p.lo, .int .i64 p.hi]
/-- A part in a box. -/
structure PBox (w : World) (g : Nat) (p : Part) : Prop where
  c0 : w.cell? ⟨g, 0, none⟩ = some (.func (.func (fnP p.wh)) #[] #[])
  c1 : w.cell? ⟨g, 1, none⟩ = some (.int .i64 p.lo)
  c2 : w.cell? ⟨g, 2, none⟩ = some (.int .i64 p.hi)
theorem PBox.below {w w' : World} {g : Nat} {p : Part} (h : PBox w g p) (hb : Below w.heap.size w w') : PBox w' g p :=
  ⟨(hb.cell (there_blockW h.c0)).trans h.c0, (hb.cell (there_blockW h.c1)).trans h.c1, (hb.cell (there_blockW h.c2)).trans h.c2⟩
/-- A list of parts as a slice. -/
def SlP (L : List Part) (v : Value) (w : World) : Prop := (L = [] ∧ v = .slice none 0 0) ∨ ∃ g, v = .slice (some ⟨g, 0, none⟩) L.length L.length ∧ w.heap[g]? = some (.cells (L.flatMap partC).toArray 149 (0, 0))
theorem SlP.below {w w' : World} {L : List Part} {v : Value} (h : SlP L v w) (hb : Below w.heap.size w w') : SlP L v w' := by
  rcases h with h | ⟨g, h1, h2⟩
  · exact .inl h
  · exact .inr ⟨g, h1, (hb.block g (Array.getElem?_eq_some_iff.1 h2).1).trans h2⟩
theorem row_any (v : Value) (A : Option Addr) (n c : Nat) (hv : v = .slice A n c) (w : World) : Calls Tryd.prog 98 #[v] w fun e w' => e = .returned v ∧ w = w' := by
  subst hv
  go_enter Tryd.func98, Tryd.ntmps98
  go_wp2
  go_ret
  exact ⟨rfl, rfl⟩
section
variable {a : Act} {w : World} {K : Act → World → Prop} {Q : Exit → Act → World → Prop} {o : Oper}
theorem w_load (x g : Nat) {p : Part} (ho : o.op = .load 149 (.tmp x)) (hx : a.tmps[x]?.getD undef = .pointer (some ⟨g, 0, none⟩)) (hp : PBox w g p) (hK : K (a.put o.dst (partV p)) w) : Oper.wp Tryd.prog o a w K Q := by
  obtain ⟨dst, op, type, pos, after, guard⟩ := o
  have ho' : op = _ := ho
  subst ho'
  clear ho
  obtain ⟨c0, c1, c2⟩ := hp
  unfold partV at hK
  go_simp
  exact hK
theorem w_sl1 (x : Nat) {p : Part} (ho : o.op = .buildSlice 164 1 #[(0, .tmp x)]) (hx : a.tmps[x]?.getD undef = partV p) (hK : ∀ v w', Below w.heap.size w w' → SlP [p] v w' → K (a.put o.dst v) w') : Oper.wp Tryd.prog o a w K Q := by
  obtain ⟨dst, op, type, pos, after, guard⟩ := o
  have ho' : op = _ := ho
  subst ho'
  clear ho
  unfold partV at hx
  have h2 := hK (.slice (some ⟨w.heap.size, 0, none⟩) 1 1) (w.alloc (.cells (partC p).toArray 149)) ((Below.refl _ _).alloc (Nat.le_refl _) _) (.inr ⟨w.heap.size, rfl, (World.alloc_heap_new w _).trans (by simp)⟩)
  clear hK
  unfold partC at h2
  go_simp
  exact h2
theorem w_sl2 (x y : Nat) {p q : Part} (ho : o.op = .buildSlice 164 2 #[(0, .tmp x), (1, .tmp y)]) (hx : a.tmps[x]?.getD undef = partV p) (hy : a.tmps[y]?.getD undef = partV q) (hK : ∀ v w', Below w.heap.size w w' → SlP [p, q] v w' → K (a.put o.dst v) w') : Oper.wp Tryd.prog o a w K Q := by
  obtain ⟨dst, op, type, pos, after, guard⟩ := o
  have ho' : op = _ := ho
  subst ho'
  clear ho
  unfold partV at hx hy
  have h2 := hK (.slice (some ⟨w.heap.size, 0, none⟩) 2 2) (w.alloc (.cells (partC p ++ partC q).toArray 149)) ((Below.refl _ _).alloc (Nat.le_refl _) _) (.inr ⟨w.heap.size, rfl, (World.alloc_heap_new w _).trans (by simp)⟩)
  clear hK
  unfold partC at h2
  go_simp
  exact h2
theorem w_row (x : Nat) {L : List Part} {v : Value} (ho : o.op = .call { callee := .value (.func 98), args := #[.tmp x], argTypes := #[164] }) (hx : a.tmps[x]?.getD undef = v) (hs : SlP L v w) (hK : K (a.put o.dst v) w) : Oper.wp Tryd.prog o a w K Q := by
  obtain ⟨dst, op, type, pos, after, guard⟩ := o
  have ho' : op = _ := ho
  subst ho'
  clear ho
  obtain ⟨A, n, c, hv⟩ : ∃ A n c, v = .slice A n c := by
    rcases hs with ⟨_, h⟩ | ⟨g, h, _⟩ <;> exact ⟨_, _, _, h⟩
  have hr := row_any v A n c hv w
  clear hs hv
  subst hx
  have h1 := Tryd.func98
  go_simp
  refine hr.mono ?_
  rintro e w' ⟨rfl, rfl⟩
  exact hK
theorem w_row0 (ho : o.op = .call { callee := .value (.func 98), args := #[.const (.slice none 0 0)], argTypes := #[164] }) (hK : K (a.put o.dst (.slice none 0 0)) w) : Oper.wp Tryd.prog o a w K Q := by
  obtain ⟨dst, op, type, pos, after, guard⟩ := o
  have ho' : op = _ := ho
  subst ho'
  clear ho
  have hr := row_any (.slice none 0 0) none 0 0 rfl w
  have h1 := Tryd.func98
  go_simp
  refine hr.mono ?_
  rintro e w' ⟨rfl, rfl⟩
  exact hK
theorem w_build {v : Nat → Value} {A : Nat → Option Addr} {n c : Nat → Nat} (hv : ∀ j, v j = .slice (A j) (n j) (c j)) (ho : o.op = .build 166 #[(1, .tmp 29), (2, .tmp 33), (3, .tmp 37), (4, .tmp 40), (5, .tmp 43), (6, .tmp 46), (7, .tmp 49), (8, .tmp 53), (9, .tmp 56), (10, .tmp 60), (11, .tmp 63), (12, .tmp 64), (13, .tmp 65)])
    (h1 : a.tmps[29]?.getD undef = v 1) (h2 : a.tmps[33]?.getD undef = v 2) (h3 : a.tmps[37]?.getD undef = v 3) (h4 : a.tmps[40]?.getD undef = v 4) (h5 : a.tmps[43]?.getD undef = v 5) (h6 : a.tmps[46]?.getD undef = v 6) (h7 : a.tmps[49]?.getD undef = v 7) (h8 : a.tmps[53]?.getD undef = v 8) (h9 : a.tmps[56]?.getD undef = v 9) (h10 : a.tmps[60]?.getD undef = v 10) (h11 : a.tmps[63]?.getD undef = v 11) (h12 : a.tmps[64]?.getD undef = v 12) (h13 : a.tmps[65]?.getD undef = v 13)
    (hK : K (a.put o.dst (.agg #[.slice none 0 0, v 1, v 2, v 3, v 4, v 5, v 6, v 7, v 8, v 9, v 10, v 11, v 12, v 13])) w) : Oper.wp Tryd.prog o a w K Q := by
  obtain ⟨dst, op, type, pos, after, guard⟩ := o
  have ho' : op = _ := ho
  subst ho'
  clear ho
  rw [hv 1] at h1
  rw [hv 2] at h2
  rw [hv 3] at h3
  rw [hv 4] at h4
  rw [hv 5] at h5
  rw [hv 6] at h6
  rw [hv 7] at h7
  rw [hv 8] at h8
  rw [hv 9] at h9
  rw [hv 10] at h10
  rw [hv 11] at h11
  rw [hv 12] at h12
  rw [hv 13] at h13
  simp only [hv] at hK
  clear hv
  go_simp
  exact hK
theorem w_alloc (ho : o.op = .alloc 166) (hK : K (a.put o.dst (.pointer (some ⟨w.heap.size, 0, none⟩))) (w.alloc (.cells (Array.replicate 14 (.slice none 0 0)) 166))) : Oper.wp Tryd.prog o a w K Q := by
  obtain ⟨dst, op, type, pos, after, guard⟩ := o
  have ho' : op = _ := ho
  subst ho'
  clear ho
  go_simp
  exact hK
end
end Go.Proofs.YtkfcglgikemefaaDoor
