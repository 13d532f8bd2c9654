/-
  TWO HEAPS, COMPARED: the same just if all their numbers are. Conditions: as they stand.
-/
import Derived.Test.YtokhcogmoleocaaHe
import Derived.ChangeKeysEq
namespace Go.Proofs.Ytokhcogmoleocaa
set_option maxRecDepth 100000
open Go.RowKit Go.Deep
set_option linter.unusedVariables false
theorem rowC_extract (n a b : Nat) (c : Nat → Int) (h : b ≤ n) : (rowC n c).extract a b = rowC (b - a) (fun j => c (a + j)) := by
  apply Array.ext_getElem?
  intro j
  rw [Array.getElem?_extract]
  by_cases hj : j < b - a
  · rw [rowC_get _ _ hj, rowC_get _ _ (by omega), if_pos (by rw [rowC_size]; omega)]
  · rw [if_neg (by rw [rowC_size]; omega), Array.getElem?_eq_none (by rw [rowC_size]; omega)]
theorem eq_items {e : TypeId} (he : Try.prog.underlying e = some (.int .i64)) (hia : ∀ w, (isAgg e).run Try.prog w = .ok false w) (hc : Try.prog.cellsOf e = 1) {n : Nat} (c c' : Nat → Int) (d : Nat) (w : World) : ∀ is : List Nat, (∀ i ∈ is, i < n) → (Op.eqItems (d + 1) e 1 (rowC n c) (rowC n c') is).run Try.prog w = .ok (is.all fun i => c i == c' i) w := by
  intro is
  induction is with
  | nil => intro _; rfl
  | cons i is ih =>
    intro h
    have hi := h i List.mem_cons_self
    have p1 : ∀ c : Nat → Int, (part e (rowC n c) (i * 1)).run Try.prog w = .ok (.int .i64 (c i)) w := fun c => by
      have hs : (rowC n c)[i]? = some (.int .i64 (c i)) := rowC_get n c hi
      simp [part, hia, hs]
    have ih' := ih fun j hj => h j (List.mem_cons_of_mem _ hj)
    simp only [Op.eqItems, Sem.run_bind, p1, Result.andThen_ok, run_equalIn_int w d e .i64 .i64 _ _ he, List.all_cons]
    cases hq : (c i == c' i)
    · simp
    · simp [ih']
/-- All of n numbers. -/
def eqF (n : Nat) (c c' : Nat → Int) : Bool := (List.range n).all fun i => c i == c' i
theorem eqF_iff {n : Nat} {c c' : Nat → Int} : eqF n c c' = true ↔ ∀ j, j < n → c j = c' j := by
  simp [eqF, List.all_eq_true]
theorem eq_arr (t e : TypeId) (n d : Nat) (c c' : Nat → Int) (w : World) (hu : Try.prog.underlying t = some (.array n e)) (he : Try.prog.underlying e = some (.int .i64)) (hi : (Try.prog.info? e).isSome = true) (hia : ∀ w, (isAgg e).run Try.prog w = .ok false w) (hc : Try.prog.cellsOf e = 1) : (Op.equalIn (d + 2) t (.agg (rowC n c)) (.agg (rowC n c'))).run Try.prog w = .ok (eqF n c c') w := by
  obtain ⟨i, hi'⟩ := Option.isSome_iff_exists.1 hi
  rw [run_equalIn_array w (d + 1) _ _ hu hi', hc]
  exact eq_items he hia hc c c' d w _ fun i hi => List.mem_range.1 hi
theorem part_one (t : TypeId) (n i : Nat) (c : Nat → Int) (w : World) (hia : ∀ w, (isAgg t).run Try.prog w = .ok false w) (hi : i < n) : (part t (rowC n c) i).run Try.prog w = .ok (.int .i64 (c i)) w := by
  have hs : (rowC n c)[i]? = some (.int .i64 (c i)) := rowC_get n c hi
  simp [part, hia, hs]
theorem part_agg (t : TypeId) (n i k : Nat) (c : Nat → Int) (w : World) (hia : ∀ w, (isAgg t).run Try.prog w = .ok true w) (hsz : ∀ w, (sizeOf t).run Try.prog w = .ok k w) (hi : i + k ≤ n) : (part t (rowC n c) i).run Try.prog w = .ok (.agg (rowC k fun j => c (i + j))) w := by
  simp only [part, Sem.run_bind, hia, Result.andThen_ok, hsz, if_true, Sem.run_pure]
  rw [rowC_extract n i (i + k) c hi, show i + k - i = k by omega]
theorem eq_step {P : Program} {w : World} {d : Nat} {xs ys : Array Value} {f : Field} {fs : List Field} {a b : Value} {r q : Bool} (hn : f.name ≠ "_") (pa : (part f.type xs f.offset).run P w = .ok a w) (pb : (part f.type ys f.offset).run P w = .ok b w) (pr : (Op.equalIn d f.type a b).run P w = .ok r w) (rest : (Op.eqFields d xs ys fs).run P w = .ok q w) : (Op.eqFields d xs ys (f :: fs)).run P w = .ok (r && q) w := by
  unfold Op.eqFields
  rw [if_pos hn]
  simp only [Sem.run_bind, pa, pb, pr, Result.andThen_ok]
  cases r
  · simp
  · simpa using rest
theorem eq_locks (d : Nat) (c c' : Nat → Int) (w : World) : ∃ r : Bool, (Op.equalIn (d + 3) 61 (.agg (rowC 67 c)) (.agg (rowC 67 c'))).run Try.prog w = .ok r w ∧ (r = true ↔ ∀ j, j < 67 → c j = c' j) := by
  have hu := Try.underlying61
  have h3 := Try.underlying3
  have hia := Try.isAgg3
  have hia2 := Try.isAgg59
  have hs2 := Try.sizeOf59
  have e1 : ∀ c c' : Nat → Int, (Op.equalIn (d + 2) 59 (.agg (rowC 32 c)) (.agg (rowC 32 c'))).run Try.prog w = .ok (eqF 32 c c') w := fun c c' => eq_arr 59 3 32 d c c' w Try.underlying59 h3 (by kernel_rfl) hia (by kernel_rfl)
  have e2 : ∀ a b : Int, (Op.equalIn (d + 2) 3 (.int .i64 a) (.int .i64 b)).run Try.prog w = .ok (a == b) w := fun a b => run_equalIn_int w (d + 1) _ .i64 .i64 a b h3
  have p1 : ∀ (c : Nat → Int) i, i < 67 → (part 3 (rowC 67 c) i).run Try.prog w = .ok (.int .i64 (c i)) w := fun c i hi => part_one _ 67 i c w hia hi
  have p2 : ∀ (c : Nat → Int) i, i + 32 ≤ 67 → (part 59 (rowC 67 c) i).run Try.prog w = .ok (.agg (rowC 32 fun j => c (i + j))) w := fun c i hi => part_agg _ 67 i 32 c w hia2 hs2 hi
  refine ⟨(c 0 == c' 0) && (eqF 32 (fun j => c (1 + j)) (fun j => c' (1 + j)) && (eqF 32 (fun j => c (33 + j)) (fun j => c' (33 + j)) && ((c 65 == c' 65) && ((c 66 == c' 66) && true)))), ?_, ?_⟩
  · rw [run_equalIn_agg w (d + 2) 61 _ _ (by kernel_rfl) (by kernel_rfl)]
    simp only [Program.fieldsOf, hu]
    exact eq_step (by decide) (p1 c 0 (by decide)) (p1 c' 0 (by decide)) (e2 _ _) (eq_step (by decide) (p2 c 1 (by decide)) (p2 c' 1 (by decide)) (e1 _ _) (eq_step (by decide) (p2 c 33 (by decide)) (p2 c' 33 (by decide)) (e1 _ _) (eq_step (by decide) (p1 c 65 (by decide)) (p1 c' 65 (by decide)) (e2 _ _) (eq_step (by decide) (p1 c 66 (by decide)) (p1 c' 66 (by decide)) (e2 _ _) rfl))))
  · simp only [Bool.and_eq_true, beq_iff_eq, eqF_iff, and_true]
    constructor
    · rintro ⟨h0, h1, h2, h3, h4⟩ j hj
      by_cases j0 : j = 0
      · subst j0; exact h0
      by_cases j1 : j < 33
      · have := h1 (j - 1) (by omega)
        rwa [show 1 + (j - 1) = j by omega] at this
      by_cases j2 : j < 65
      · have := h2 (j - 33) (by omega)
        rwa [show 33 + (j - 33) = j by omega] at this
      by_cases j3 : j = 65
      · subst j3; exact h3
      obtain rfl : j = 66 := by omega
      exact h4
    · intro h
      exact ⟨h 0 (by decide), fun j hj => h (1 + j) (by omega), fun j hj => h (33 + j) (by omega), h 65 (by decide), h 66 (by decide)⟩
theorem eq_heap (c c' : Nat → Int) (w : World) : ∃ r : Bool, (Go.binOp .eql 64 (.agg (rowC 100 c)) (.agg (rowC 100 c'))).run Try.prog w = .ok (.bool r) w ∧ (r = true ↔ ∀ j, j < 100 → c j = c' j) := by
  have hu := Try.underlying64
  have h3 := Try.underlying3
  have hia := Try.isAgg3
  have hia2 := Try.isAgg62
  have hs2 := Try.sizeOf62
  have hia3 := Try.isAgg61
  have hs3 := Try.sizeOf61
  have e1 : ∀ c c' : Nat → Int, (Op.equalIn 9999 62 (.agg (rowC 32 c)) (.agg (rowC 32 c'))).run Try.prog w = .ok (eqF 32 c c') w := fun c c' => eq_arr 62 2 32 9997 c c' w Try.underlying62 Try.underlying2 (by kernel_rfl) Try.isAgg2 (by kernel_rfl)
  have e2 : ∀ a b : Int, (Op.equalIn 9999 3 (.int .i64 a) (.int .i64 b)).run Try.prog w = .ok (a == b) w := fun a b => run_equalIn_int w 9998 _ .i64 .i64 a b h3
  obtain ⟨r, e3, hr⟩ := eq_locks 9996 c c' w
  have p1 : ∀ (c : Nat → Int) i, i < 100 → (part 3 (rowC 100 c) i).run Try.prog w = .ok (.int .i64 (c i)) w := fun c i hi => part_one _ 100 i c w hia hi
  have p2 : ∀ (c : Nat → Int) i, i + 32 ≤ 100 → (part 62 (rowC 100 c) i).run Try.prog w = .ok (.agg (rowC 32 fun j => c (i + j))) w := fun c i hi => part_agg _ 100 i 32 c w hia2 hs2 hi
  have p3 : ∀ (c : Nat → Int), (part 61 (rowC 100 c) 0).run Try.prog w = .ok (.agg (rowC 67 c)) w := fun c => by
    have := part_agg 61 100 0 67 c w hia3 hs3 (by decide)
    simpa using this
  refine ⟨r && ((c 67 == c' 67) && (eqF 32 (fun j => c (68 + j)) (fun j => c' (68 + j)) && true)), ?_, ?_⟩
  · rw [run_eql_struct, show (10000 : Nat) = 9999 + 1 from rfl, run_equalIn_agg w 9999 64 _ _ (by kernel_rfl) (by kernel_rfl)]
    simp only [Program.fieldsOf, hu]
    have : (Op.eqFields 9999 (rowC 100 c) (rowC 100 c') [{ name := "locks", type := 61, offset := 0, embedded := true, tag := "", pkgPath := "seesaw/heap", byteOffset := 0 }, { name := "vars", type := 3, offset := 67, embedded := false, tag := "", pkgPath := "seesaw/heap", byteOffset := 536 }, { name := "values", type := 62, offset := 68, embedded := false, tag := "", pkgPath := "seesaw/heap", byteOffset := 544 }]).run Try.prog w = .ok (r && ((c 67 == c' 67) && (eqF 32 (fun j => c (68 + j)) (fun j => c' (68 + j)) && true))) w := eq_step (by decide) (p3 c) (p3 c') e3 (eq_step (by decide) (p1 c 67 (by decide)) (p1 c' 67 (by decide)) (e2 _ _) (eq_step (by decide) (p2 c 68 (by decide)) (p2 c' 68 (by decide)) (e1 _ _) rfl))
    rw [this]
    rfl
  · simp only [Bool.and_eq_true, beq_iff_eq, eqF_iff, and_true, hr]
    constructor
    · rintro ⟨h0, h1, h2⟩ j hj
      by_cases j0 : j < 67
      · exact h0 j j0
      by_cases j1 : j = 67
      · subst j1; exact h1
      have := h2 (j - 68) (by omega)
      rwa [show 68 + (j - 68) = j by omega] at this
    · intro h
      exact ⟨fun j hj => h j (by omega), h 67 (by decide), fun j hj => h (68 + j) (by omega)⟩
end Go.Proofs.Ytokhcogmoleocaa
