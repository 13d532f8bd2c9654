/-
  WORDS FOR THE CONTRACTS OF LAYER 4: a struct's block; what a call tells of a value and an error; which variable a value means; what is whole, taken apart. No condition.
-/
import Derived.Test.YtokhcogmoleocaaEm
import Derived.LoopTactic
import Derived.Handy
import Derived.WalkLawsBesides
import Derived.WalkSpells
namespace Go.Proofs.Ytokhcogmoleocaa
set_option maxRecDepth 100000
open Go.RowKit
set_option linter.unusedVariables false
theorem ret_n {a b : Nat} (h : a = b) : Ending.returned (.int .i64 a) = .returned (.int .i64 b) := by rw [h]
/-- The block of a struct that was handed in. -/
structure Boxed (w : World) (g : Nat) (x y z : Value) : Prop where
  c0 : w.cell? ⟨g, 0, none⟩ = some x
  c1 : w.cell? ⟨g, 1, none⟩ = some y
  c2 : w.cell? ⟨g, 2, none⟩ = some z
theorem Boxed.below {w w' : World} {B g : Nat} {x y z : Value} (h : Boxed w g x y z) (hb : Below B w w') (hg : g < B) : Boxed w' g x y z :=
  ⟨(hb.cell (p := ⟨g, 0, none⟩) hg).trans h.c0, (hb.cell (p := ⟨g, 1, none⟩) hg).trans h.c1, (hb.cell (p := ⟨g, 2, none⟩) hg).trans h.c2⟩

theorem At.boxed {w : World} {lo hi d : Nat} {v : Value} {e : Ex} (h : At w lo hi d v e) : ∃ x y z, v = .agg #[x, y, z] := by
  cases d with
  | zero => exact h.elim
  | succ d =>
    obtain ⟨op, n, args⟩ := e
    obtain ⟨q1, q2, q3, q4, A, c, rfl, hk⟩ := h.open_
    exact ⟨_, _, _, rfl⟩
theorem ret_two {a b a' b' : Int} (h : a = a') (h2 : b = b') : Ending.returned (.tuple #[.int .i64 a, .int .i64 b]) = .returned (.tuple #[.int .i64 a', .int .i64 b']) := by rw [h, h2]
/-- Which of so many variables a value means. -/
def varF (x vars : Int) : Int × Int := if vars < 1 then (0, 1) else (x % vars, 0)
theorem tmod_fix (x v : Int) (hv : 0 < v) (h : x.tmod v < 0) : x.tmod v + v = x % v := by
  have h1 := Int.tmod_eq_emod (a := x) (b := v)
  have h2 := Int.emod_nonneg x (by omega : v ≠ 0)
  have h3 := Int.emod_lt_of_pos x hv
  rw [h1] at h ⊢
  split at h
  · omega
  · rename_i hc
    rw [if_neg hc]
    omega
theorem tmod_pos (x v : Int) (hv : 0 < v) (h : 0 ≤ x.tmod v) : x.tmod v = x % v := by
  have h1 := Int.tmod_eq_emod (a := x) (b := v)
  have h2 := Int.emod_nonneg x (by omega : v ≠ 0)
  have h3 := Int.emod_lt_of_pos x hv
  rw [h1] at h ⊢
  split at h
  · rename_i hc
    rw [if_pos hc]; omega
  · rename_i hc
    rw [if_neg hc]
    omega
def comeV (p : Int × Nat) : Value := .tuple #[.int .i64 p.1, .int .i64 p.2]
theorem ret_come {p : Int × Nat} {a b : Int} (h : a = p.1) (h2 : b = p.2) : Ending.returned (.tuple #[.int .i64 a, .int .i64 b]) = .returned (comeV p) := by rw [h, h2]; rfl
theorem whole_two {m op : Nat} {n : Int} {args : List Ex} (h4 : 4 ≤ op) (h8 : op ≤ 8) (h : wholeF (m + 1) (.node op n args) = true) : n = 0 ∧ ∃ a b, args = [a, b] ∧ wholeF m a = true ∧ wholeF m b = true := by
  rw [wholeF, if_neg (by omega), if_neg (by omega), if_neg (by omega), if_pos ⟨h4, h8⟩, Bool.and_eq_true] at h
  refine ⟨of_decide_eq_true h.1, ?_⟩
  by_cases h2 : args.length = 2
  · match args, h2 with
    | [a, b], _ =>
      have := h.2
      simp only [both, Bool.and_eq_true] at this
      exact ⟨a, b, rfl, this⟩
  · rw [both_no _ _ h2] at h
    cases h.2
theorem whole_op {m op : Nat} {n : Int} {args : List Ex} (h : wholeF (m + 1) (.node op n args) = true) : 1 ≤ op ∧ op ≤ 8 := by
  by_cases h1 : 1 ≤ op ∧ op ≤ 8
  · exact h1
  · rw [wholeF, if_neg (by omega), if_neg (by omega), if_neg (by omega), if_neg (by omega)] at h
    cases h
theorem whole_at {m op : Nat} {n : Int} {args : List Ex} (ho : op = 2 ∨ op = 3) (h : wholeF (m + 1) (.node op n args) = true) : 0 ≤ n := by
  rcases ho with rfl | rfl
  · rw [wholeF, if_neg (by omega), if_pos rfl] at h
    exact (of_decide_eq_true h).2.1
  · rw [wholeF, if_neg (by omega), if_neg (by omega), if_pos rfl] at h
    exact (of_decide_eq_true h).2.1
end Go.Proofs.Ytokhcogmoleocaa
