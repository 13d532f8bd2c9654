/-
  CONTRACT OF slices.Clone AS PACKAGE code CALLS IT: the cells of a row of statements, in a row of the call's own; the memory that was there stays as it was. Condition: at most 100000 statements.
-/
import Derived.Test.YtnkdaehmdcpafaaDoorCm
import Derived.Test.YtnkdaehmdcpafaaDoorDp
import Derived.Deep.Slices
import Derived.Laws.AppendOwn
namespace Go.Proofs.YtnkdaehmdcpafaaDoor
open Go.RowKit Go.Deep
set_option linter.unusedVariables false
instance : Inhabited Raw := ⟨⟨0, 0, 0, 0, none, 0, 0, 0, 0, none, 0, 0, none, 0, 0, none, 0, 0⟩⟩
def Raw.cells (r : Raw) : List Value := [.int .u8 r.k, .int .i64 r.t, .int .u8 r.ao, .int .i64 r.an, .slice r.aA r.al r.ac, .int .u8 r.bo, .int .i64 r.bn, .slice r.bA r.bl r.bc, .slice r.yA r.yl r.yc, .slice r.eA r.el r.ec]
/-- A row of statements that may be written. -/
def RowX (w : World) (S : Nat → Prop) (A : Option Addr) (n : Nat) : Prop := n = 0 ∨ ∃ g xs, A = some ⟨g, 0, none⟩ ∧ S g ∧ w.heap[g]? = some (.cells xs 39 (0, 0)) ∧ n * 10 ≤ xs.size
theorem RowX.keep {w w' : World} {S S' : Nat → Prop} {B : Option Addr} {n : Nat} (h : RowX w S B n) (hS : ∀ b, S b → S' b) (hk : ∀ b, S b → w'.heap[b]? = w.heap[b]?) : RowX w' S' B n := by
  rcases h with h | ⟨g, xs, h1, h2, h3, h4⟩
  · exact Or.inl h
  · exact Or.inr ⟨g, xs, h1, hS _ h2, (hk _ h2).trans h3, h4⟩
/-- So many statements, cell by cell. -/
def rowOf (Q : Nat → Raw) : Nat → List Value
  | 0 => []
  | n + 1 => rowOf Q n ++ (Q n).cells
theorem rowOf_len (Q : Nat → Raw) (n : Nat) : (rowOf Q n).length = n * 10 := by
  induction n with
  | zero => rfl
  | succ n ih => rw [rowOf, List.length_append, ih]; show n * 10 + 10 = _; omega
theorem rowOf_get (Q : Nat → Raw) : ∀ (n k j : Nat), k < n → j < 10 → (rowOf Q n)[k * 10 + j]? = (Q k).cells[j]? := by
  intro n
  induction n with
  | zero => intro k j h; omega
  | succ n ih =>
    intro k j hk hj
    rw [rowOf]
    by_cases h : k < n
    · rw [List.getElem?_append_left (by rw [rowOf_len]; omega)]
      exact ih k j h hj
    · obtain rfl : k = n := by omega
      rw [List.getElem?_append_right (by rw [rowOf_len]; omega), rowOf_len, show k * 10 + j - k * 10 = j by omega]
theorem cells_one (q : Raw) : ∀ u ∈ q.cells, u.oneCell' = true := by
  intro u hu
  simp only [Raw.cells, List.mem_cons, List.not_mem_nil, or_false] at hu
  rcases hu with rfl | rfl | rfl | rfl | rfl | rfl | rfl | rfl | rfl | rfl <;> rfl
theorem rowOf_one (Q : Nat → Raw) (n : Nat) : ∀ u ∈ rowOf Q n, u.oneCell' = true := by
  induction n with
  | zero => intro u hu; cases hu
  | succ n ih =>
    intro u hu
    rw [rowOf, List.mem_append] at hu
    exact hu.elim (ih u) (cells_one _ u)
theorem add_add (p : Addr) (a b : Nat) : p.add (a + b) = ⟨(p.add a).block, (p.add a).off + b, none⟩ ∨ b = 0 := by
  by_cases hb : b = 0
  · exact .inr hb
  · left
    unfold Addr.add
    split
    · omega
    · split
      · rename_i h1 h2
        simp
      · simp [Nat.add_assoc]
theorem Ten.all {w : World} {p : Addr} {q : Raw} (h : Ten w p q) : ∀ j u, j < 10 → q.cells[j]? = some u → (j = 0 → w.cell? p = some u) ∧ (j ≠ 0 → w.cell? ⟨p.block, p.off + j, none⟩ = some u) := by
  intro j u hj hu
  obtain rfl | rfl | rfl | rfl | rfl | rfl | rfl | rfl | rfl | rfl : j = 0 ∨ j = 1 ∨ j = 2 ∨ j = 3 ∨ j = 4 ∨ j = 5 ∨ j = 6 ∨ j = 7 ∨ j = 8 ∨ j = 9 := by omega
  · exact ⟨fun _ => h.c0.trans hu, fun h => absurd rfl h⟩
  · exact ⟨fun h => absurd h (by omega), fun _ => h.c1.trans hu⟩
  · exact ⟨fun h => absurd h (by omega), fun _ => h.c2.trans hu⟩
  · exact ⟨fun h => absurd h (by omega), fun _ => h.c3.trans hu⟩
  · exact ⟨fun h => absurd h (by omega), fun _ => h.c4.trans hu⟩
  · exact ⟨fun h => absurd h (by omega), fun _ => h.c5.trans hu⟩
  · exact ⟨fun h => absurd h (by omega), fun _ => h.c6.trans hu⟩
  · exact ⟨fun h => absurd h (by omega), fun _ => h.c7.trans hu⟩
  · exact ⟨fun h => absurd h (by omega), fun _ => h.c8.trans hu⟩
  · exact ⟨fun h => absurd h (by omega), fun _ => h.c9.trans hu⟩
theorem row_news {w : World} {p : Addr} {Q : Nat → Raw} {n : Nat} (h : ∀ k, k < n → Ten w (p.add (k * 10)) (Q k)) : ∀ j u, (rowOf Q n)[j]? = some u → w.cell? (p.add j) = some u := by
  intro j u hu
  have hj : j < n * 10 := by
    rcases Nat.lt_or_ge j (n * 10) with h | h
    · exact h
    · rw [List.getElem?_eq_none (by rw [rowOf_len]; exact h)] at hu; cases hu
  have hk : j / 10 < n := by omega
  have hjj : j = j / 10 * 10 + j % 10 := by omega
  rw [hjj, rowOf_get Q n (j / 10) (j % 10) hk (by omega)] at hu
  have h1 := (h (j / 10) hk).all (j % 10) u (by omega) hu
  rw [hjj]
  by_cases h0 : j % 10 = 0
  · rw [h0, Nat.add_zero]
    exact h1.1 h0
  · rcases add_add p (j / 10 * 10) (j % 10) with h2 | h2
    · rw [h2]
      exact h1.2 h0
    · exact absurd h2 h0
theorem there_blk {w : World} {p : Addr} {v : Value} (h : w.cell? p = some v) : p.block < w.heap.size := by
  unfold World.cell? at h
  rcases Nat.lt_or_ge p.block w.heap.size with hh | hh
  · exact hh
  · rw [Array.getElem?_eq_none hh] at h; simp at h
theorem stmt_info : (Tryd.prog.info? 39).map (fun i => (i.zero, i.size, i.bytes)) = some (some (.agg #[.int .u8 0, .int .i64 0, .int .u8 0, .int .i64 0, .slice none 0 0, .int .u8 0, .int .i64 0, .slice none 0 0, .slice none 0 0, .slice none 0 0]), 10, 144) := by kernel_rfl
theorem eqIn_sl (d : Nat) (b : Option Addr) (l c : Nat) (w : World) : (Op.equalIn (d + 1) 34 (.slice b l c) (.slice none 0 0)).run Tryd.prog w = .ok b.isNone w := by
  cases b <;> simp [Op.equalIn, run_underlying Tryd.underlying34]
theorem eq_sl (b : Option Addr) (l c : Nat) (w : World) : (Op.equal 34 (.slice b l c) (.slice none 0 0)).run Tryd.prog w = .ok b.isNone w := eqIn_sl 9999 b l c w
theorem eql_sl (b : Option Addr) (l c : Nat) (w : World) : (Go.binOp .eql 34 (.slice b l c) (.slice none 0 0)).run Tryd.prog w = .ok (.bool b.isNone) w := by
  simp only [Go.binOp]
  simp [eq_sl]
/-- What Clone leaves: nothing, or a row of its own with the same cells. -/
def Cloned (Q : Nat → Raw) (n : Nat) (w : World) (e : Ending) (w' : World) : Prop := ∃ A cap, e = .returned (.slice A n cap) ∧ Below w.heap.size w w' ∧
  (n = 0 ∨ ∃ g cur, A = some ⟨g, 0, none⟩ ∧ w.heap.size ≤ g ∧ w'.heap[g]? = some (.cells cur 39 (0, 0)) ∧ n * 10 ≤ cur.size ∧ ∀ j, j < n * 10 → cur[j]? = (rowOf Q n)[j]?)
theorem cloned_of {Q : Nat → Raw} {n : Nat} {w w1 w' : World} {v : Value} (h : w'.ownsRow w.heap.size 39 10 v n (rowOf Q n)) (hb : Below w.heap.size w w') : Cloned Q n w (.returned v) w' := by
  obtain ⟨_, ⟨rfl, rfl⟩ | ⟨g, cap, cur, rfl, hg, hr, hc, hm, hs, ht⟩⟩ := h
  · exact ⟨none, 0, rfl, hb, .inl rfl⟩
  · refine ⟨some ⟨g, 0, none⟩, cap, rfl, hb, .inr ⟨g, cur, rfl, hg, hr, by rw [hs]; exact Nat.mul_le_mul_right _ hc, fun j hj => ?_⟩⟩
    rw [← ht, List.getElem?_take_of_lt hj]
    simp
set_option maxRecDepth 100000 in
theorem clone_any (Q : Nat → Raw) (n : Nat) (hn : n ≤ 100000) (A : Option Addr) (c : Nat) (w : World) (h : ∀ k, k < n → ∃ p, A = some p ∧ Ten w (p.add (k * 10)) (Q k)) :
    Calls Tryd.prog 50 #[.slice A n c] w (Cloned Q n w) := by
  cases A with
  | none =>
    obtain rfl : n = 0 := by
      rcases Nat.eq_zero_or_pos n with h0 | h0
      · exact h0
      · obtain ⟨p, hp, _⟩ := h 0 h0
        cases hp
    have heq := eql_sl none
    clear h
    go_enter Tryd.func50, Tryd.ntmps50
    go_wp2_with fail
    go_ret
    exact ⟨none, 0, rfl, Below.refl _ _, .inl rfl⟩
  | some p =>
    have heq := eql_sl (some p)
    have hb0 : Below w.heap.size w (w.alloc (.cells #[] 39)) := (Below.refl _ _).alloc (Nat.le_refl _) _
    have hT : ∀ k, k < n → Ten (w.alloc (.cells #[] 39)) (p.add (k * 10)) (Q k) := fun k hk => by
      obtain ⟨p', hp, ht⟩ := h k hk
      cases hp
      exact ht.below hb0 (there_blk ht.c0)
    have hown := World.ownsRow_made (e := 39) (base := w.heap.size) (size := 10) w #[] 0 (Nat.le_refl _) (by unfold maxLen; omega) rfl
    have HN := Lib.hid (row_news hT)
    have HOWN := Lib.hid hown
    have HB := Lib.hid hb0
    obtain ⟨i0, hi0, hz0, hz1, hz2⟩ := info_parts stmt_info
    clear h hT hb0 hown
    go_enter Tryd.func50, Tryd.ntmps50
    go_wp2_with (first
      | (at_builtin; refine wpList_append_own _ rfl _ _ 34 rfl w.heap.size 39 i0 _ 10 144 Tryd.underlying34 hi0 hz0 hz1 hz2 rfl (by decide) _ 0 [] rfl HOWN.out p n c (rowOf Q n) rfl (rowOf_len Q n) HN.out (rowOf_one Q n) (by unfold maxLen; omega) (by omega) (by simp) ?_; intro v' w' hown' hgrow hnil)
      | fail)
    rw [Nat.zero_add, List.nil_append] at hown'
    have hbl : Below w.heap.size w w' := HB.out.grown hgrow (by simp) (fun k e => by
      have h9 : some k = some w.heap.size := e.symm
      cases h9
      exact Nat.le_refl _)
    go_ret
    exact cloned_of (w1 := w) hown' hbl
end Go.Proofs.YtnkdaehmdcpafaaDoor
