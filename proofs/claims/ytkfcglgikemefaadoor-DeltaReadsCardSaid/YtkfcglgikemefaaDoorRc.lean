/-
  A ROW OF WHOLE NUMBERS, as a function. No condition.
-/
import Derived.Test.YtkfcglgikemefaaDoorRows
import Derived.WalkKit
namespace Go.Proofs.YtkfcglgikemefaaDoor
set_option maxRecDepth 100000
open Go.RowKit
set_option linter.unusedVariables false
def rowC (n : Nat) (c : Nat → Int) : Array Value := ((List.range n).map fun j => Value.int .i64 (c j)).toArray
def put (c : Nat → Int) (i : Nat) (v : Int) : Nat → Int := fun j => if j = i then v else c j
theorem rowC_size (n : Nat) (c : Nat → Int) : (rowC n c).size = n := by simp [rowC]
theorem rowC_get (n : Nat) (c : Nat → Int) {i : Nat} (h : i < n) : (rowC n c)[i]? = some (.int .i64 (c i)) := by
  simp [rowC, h]
theorem rowC_set (n : Nat) (c : Nat → Int) {i : Nat} (h : i < n) (v : Int) : (rowC n c).setIfInBounds i (.int .i64 v) = rowC n (put c i v) := by
  apply Array.ext_getElem?
  intro j
  by_cases hji : j = i
  · subst hji
    rw [Array.getElem?_setIfInBounds_self_of_lt (by rw [rowC_size]; exact h), rowC_get n _ h]
    simp [put]
  · rw [Array.getElem?_setIfInBounds_ne (by omega)]
    by_cases hj : j < n
    · rw [rowC_get n _ hj, rowC_get n _ hj]
      simp [put, hji]
    · rw [Array.getElem?_eq_none (by rw [rowC_size]; omega), Array.getElem?_eq_none (by rw [rowC_size]; omega)]
theorem rowC_congr {n : Nat} {c c' : Nat → Int} (h : ∀ j, j < n → c j = c' j) : rowC n c = rowC n c' := by
  unfold rowC
  congr 1
  refine List.map_congr_left fun j hj => ?_
  rw [h j (List.mem_range.1 hj)]
theorem rowC_inj {n : Nat} {c c' : Nat → Int} (h : rowC n c = rowC n c') : ∀ j, j < n → c j = c' j := by
  intro j hj
  have h1 := rowC_get n c hj
  rw [h, rowC_get n c' hj] at h1
  injection h1 with h1
  injection h1 with _ h1
  exact h1.symm
theorem rowC_one (n : Nat) (c : Nat → Int) : (rowC n c).all (·.oneCell') = true := by
  unfold rowC
  simp [Value.oneCell']
end Go.Proofs.YtkfcglgikemefaaDoor
