/-
  CONTRACTS OF PACKAGE heap (layer 11): a heap as it lies in memory, a hundred numbers; what each call does to them. Conditions: as they stand.
-/
import Derived.Test.YtokhcogmoleocaaGa
import Derived.Test.YtokhcogmoleocaaLift
namespace Go.Proofs.Ytokhcogmoleocaa
set_option maxRecDepth 100000
open Go.RowKit Go.Deep
set_option linter.unusedVariables false
/-- A heap's cells: 0 how many stripes, 1 on the owners, 33 on the versions, 65 the clock, 66 its limit, 67 how many variables, 68 on the values. -/
def rowC (n : Nat) (c : Nat → Int) : Array Value := ((List.range n).map fun j => Value.int .i64 (c j)).toArray
def put (c : Nat → Int) (i : Nat) (v : Int) : Nat → Int := fun j => if j = i then v else c j
theorem rowC_size (n : Nat) (c : Nat → Int) : (rowC n c).size = n := by simp [rowC]
theorem rowC_get (n : Nat) (c : Nat → Int) {i : Nat} (h : i < n) : (rowC n c)[i]? = some (.int .i64 (c i)) := by
  simp [rowC, h]
theorem rowC_set (n : Nat) (c : Nat → Int) {i : Nat} (h : i < n) (v : Int) : (rowC n c).setIfInBounds i (.int .i64 v) = rowC n (put c i v) := by
  apply Array.ext_getElem?
  intro j
  by_cases hji : j = i
  · subst hji
    rw [Array.getElem?_setIfInBounds_self_of_lt (by rw [rowC_size]; exact h), rowC_get n _ h]
    simp [put]
  · rw [Array.getElem?_setIfInBounds_ne (by omega)]
    by_cases hj : j < n
    · rw [rowC_get n _ hj, rowC_get n _ hj]
      simp [put, hji]
    · rw [Array.getElem?_eq_none (by rw [rowC_size]; omega), Array.getElem?_eq_none (by rw [rowC_size]; omega)]
theorem rowC_congr {n : Nat} {c c' : Nat → Int} (h : ∀ j, j < n → c j = c' j) : rowC n c = rowC n c' := by
  unfold rowC
  congr 1
  refine List.map_congr_left fun j hj => ?_
  rw [h j (List.mem_range.1 hj)]
theorem rowC_inj {n : Nat} {c c' : Nat → Int} (h : rowC n c = rowC n c') : ∀ j, j < n → c j = c' j := by
  intro j hj
  have h1 := rowC_get n c hj
  rw [h, rowC_get n c' hj] at h1
  injection h1 with h1
  injection h1 with _ h1
  exact h1.symm
theorem rowC_one (n : Nat) (c : Nat → Int) : (rowC n c).all (·.oneCell') = true := by
  unfold rowC
  simp [Value.oneCell']
def heapC (c : Nat → Int) : Array Value := rowC 100 c
theorem heapC_size (c : Nat → Int) : (heapC c).size = 100 := rowC_size _ _
theorem heapC_get (c : Nat → Int) {i : Nat} (h : i < 100) : (heapC c)[i]? = some (.int .i64 (c i)) := rowC_get _ _ h
theorem heapC_set (c : Nat → Int) {i : Nat} (h : i < 100) (v : Int) : (heapC c).setIfInBounds i (.int .i64 v) = heapC (put c i v) := rowC_set _ _ h v
def HeapAt (w : World) (g : Nat) (c : Nat → Int) : Prop := w.heap[g]? = some (.cells (heapC c) 64 (0, 0))
section
variable {w w' : World} {g : Nat} {c : Nat → Int}
theorem HeapAt.lt (h : HeapAt w g c) : g < w.heap.size := (Array.getElem?_eq_some_iff.1 h).1
theorem HeapAt.same (h : HeapAt w g c) (e : w'.heap[g]? = w.heap[g]?) : HeapAt w' g c := e.trans h
theorem HeapAt.below (h : HeapAt w g c) {B : Nat} (hb : Below B w w') (hB : g < B) : HeapAt w' g c := h.same (hb.block g hB)
theorem HeapAt.cell (h : HeapAt w g c) {i : Nat} (hi : i < 100) : w.cell? ⟨g, i, none⟩ = some (.int .i64 (c i)) := by
  have := heapC_get c hi
  unfold World.cell?
  rw [h]
  exact this
theorem HeapAt.fr (h : HeapAt w g c) (i : Nat) : w.frozen? ⟨g, i, none⟩ = false := by
  unfold World.frozen?
  rw [h]
  rfl
theorem HeapAt.set (h : HeapAt w g c) {i : Nat} (hi : i < 100) (v : Int) : HeapAt (w.setCell ⟨g, i, none⟩ (.int .i64 v)) g (put c i v) := by
  unfold HeapAt
  rw [heap_set_same _ _ _ _ _ _ h, heapC_set c hi]
end
/-- What a call leaves that writes a heap. -/
structure UpdH (w : World) (g : Nat) (c : Nat → Int) (w' : World) : Prop where
  at' : HeapAt w' g c
  far : ∀ b, b ≠ g → w'.heap[b]? = w.heap[b]?
  size : w'.heap.size = w.heap.size
  low : ∀ B, B ≤ g → Below B w w'
theorem UpdH.refl {w : World} {g : Nat} {c : Nat → Int} (h : HeapAt w g c) : UpdH w g c w := ⟨h, fun _ _ => rfl, rfl, fun B _ => Below.refl _ _⟩
theorem UpdH.set {w w' : World} {g : Nat} {c : Nat → Int} (h : UpdH w g c w') {i : Nat} (hi : i < 100) (v : Int) : UpdH w g (put c i v) (w'.setCell ⟨g, i, none⟩ (.int .i64 v)) :=
  ⟨h.at'.set hi v, fun b hb => (heap_set_other _ _ _ _ _ hb).trans (h.far b hb), by simp [h.size], fun B hB => (h.low B hB).setCell (p := ⟨g, i, none⟩) hB _⟩
theorem UpdH.drewN {w w' : World} {g : Nat} {c : Nat → Int} (h : UpdH w g c w') (n : Nat) : UpdH w g c (w'.drewN n) := ⟨h.at', h.far, h.size, fun B hB => (h.low B hB).trans ⟨rfl, rfl, rfl, Nat.le_refl _, fun _ _ => rfl⟩⟩
/-- What a heap's numbers keep. -/
structure HB (c : Nat → Int) : Prop where
  s1 : 1 ≤ c 0
  s2 : c 0 ≤ 32
  v1 : c 0 ≤ c 67
  v2 : c 67 ≤ 32
  k1 : 0 ≤ c 65
  k2 : c 65 ≤ c 66
  k3 : c 66 ≤ 1099511627776
def isS (c : Nat → Int) (s : Int) : Bool := decide (0 ≤ s) && decide (s < c 0)
def isV (c : Nat → Int) (v : Int) : Bool := decide (0 ≤ v) && decide (v < c 67)
section
variable {w : World} {g : Nat} {c : Nat → Int}
set_option maxHeartbeats 4000000 in
theorem is_any (h : HeapAt w g c) (n : Int) : Calls Try.prog 55 #[.pointer (some ⟨g, 0, none⟩), .int .i64 n] w fun e w' => e = .returned (.bool (isS c n)) ∧ w = w' := by
  have c0 := h.cell (i := 0) (by decide)
  by_cases h1 : 0 ≤ n
  · rw [show isS c n = decide (n < c 0) by unfold isS; rw [decide_eq_true h1]; rfl]
    clear h
    go_enter Try.func55, Try.ntmps55
    go_wp2_with fail
    go_ret
    exact ⟨rfl, rfl⟩
  · rw [show isS c n = false by unfold isS; rw [decide_eq_false h1]; rfl]
    clear h
    go_enter Try.func55, Try.ntmps55
    go_wp2_with fail
    go_ret
    exact ⟨rfl, rfl⟩
set_option maxHeartbeats 4000000 in
theorem hasv_any (h : HeapAt w g c) (n : Int) : Calls Try.prog 39 #[.pointer (some ⟨g, 0, none⟩), .int .i64 n] w fun e w' => e = .returned (.bool (isV c n)) ∧ w = w' := by
  have c0 := h.cell (i := 67) (by decide)
  by_cases h1 : 0 ≤ n
  · rw [show isV c n = decide (n < c 67) by unfold isV; rw [decide_eq_true h1]; rfl]
    clear h
    go_enter Try.func39, Try.ntmps39
    go_wp2_with fail
    go_ret
    exact ⟨rfl, rfl⟩
  · rw [show isV c n = false by unfold isV; rw [decide_eq_false h1]; rfl]
    clear h
    go_enter Try.func39, Try.ntmps39
    go_wp2_with fail
    go_ret
    exact ⟨rfl, rfl⟩
theorem here_any (w : World) (g : Nat) : Calls Try.prog 40 #[.pointer (some ⟨g, 0, none⟩)] w fun e w' => e = .returned (.pointer (some ⟨g, 0, none⟩)) ∧ w = w' := by
  go_enter Try.func40, Try.ntmps40
  go_wp2_with fail
  go_ret
  exact ⟨rfl, rfl⟩
end
end Go.Proofs.Ytokhcogmoleocaa
