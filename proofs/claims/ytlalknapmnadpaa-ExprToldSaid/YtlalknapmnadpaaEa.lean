/-
  AN ARGUMENT OF TYPE [8]int64, OPENED; AND append([]int64{}, xs...), AS A STEP OF A REGION THAT DRAWS: the same numbers, in new memory. Conditions: as they stand.
-/
import Derived.Test.YtlalknapmnadpaaEo
import Derived.Test.YtlalknapmnadpaaEb
import Derived.OpenShut
import Derived.Deep.RegionLawGrows
import Derived.Deep.AppendLies
namespace Go.Proofs.Ytlalknapmnadpaa
open Go.ChangeShapes Go.WideShapes Go.RowKit Go.Deep
set_option linter.unusedVariables false
section
variable {H : Type} {enc : TypeId × Value → H} {w : World} {base : Nat} {spare : Nat → Bool} {held : Bool}
theorem okWide_arr {r : Reach} {b0 : Nat} {v : Value} (h : Value.okWide Try.prog w r b0 43 v) : ∃ cs, v = .agg cs ∧ cs.size = 8 := by
  have hu := Try.underlying43
  simp only [Value.okWide, hu] at h
  obtain ⟨cs, h1, h2, _⟩ := h
  exact ⟨cs, h1, h2.trans (by kernel_rfl)⟩
theorem eight {α : Type} (l : List α) (h : l.length = 8) : ∃ a b c d e f g i, l = [a, b, c, d, e, f, g, i] := by
  match l, h with
  | [a, b, c, d, e, f, g, i], _ => exact ⟨a, b, c, d, e, f, g, i, rfl⟩
/-- An argument of type [8]int64: eight numbers. -/
theorem open_arr8 {r : Reach} {b0 : Nat} {v : Value} {d : DataW H} {ps : List MemPlace} (hv : Value.okWide Try.prog w r b0 43 v) (h : DataW.Trod enc Try.prog w base spare held 43 v d ps) :
    ∃ x0 x1 x2 x3 x4 x5 x6 x7 : Int, v = .agg #[.int .i64 x0, .int .i64 x1, .int .i64 x2, .int .i64 x3, .int .i64 x4, .int .i64 x5, .int .i64 x6, .int .i64 x7] := by
  obtain ⟨fuel, hf⟩ := h
  obtain ⟨cs, rfl, hcs⟩ := okWide_arr hv
  obtain ⟨xs, m, rfl, _, hl, hxl, hel⟩ := DataW.trod_array Try.underlying43 hf
  have hl8 : cs.toList.length = 8 := by simpa using hcs
  have hL : (Value.agg cs).cells.toList = cs.toList := rfl
  rw [hL] at hel
  have hst : ∀ i, i < 8 → ∃ n : Int, cs.toList[i]? = some (.int .i64 n) := fun i hi => by
    have hh := hel i hi
    rw [cells_i64, Nat.mul_one] at hh
    obtain ⟨v, t, g⟩ := one_of hl8 hi
    obtain ⟨y, _, z⟩ := one_of hxl hi
    rw [t, z] at hh
    obtain ⟨a0, e0, _, w0⟩ := DataW.trod_int Try.underlying2 hh
    cases e0
    exact ⟨a0, g⟩
  obtain ⟨a, b, c, d, e, f, g, i, hc⟩ := eight cs.toList hl8
  have k0 := hst 0 (by omega)
  have k1 := hst 1 (by omega)
  have k2 := hst 2 (by omega)
  have k3 := hst 3 (by omega)
  have k4 := hst 4 (by omega)
  have k5 := hst 5 (by omega)
  have k6 := hst 6 (by omega)
  have k7 := hst 7 (by omega)
  rw [hc] at k0 k1 k2 k3 k4 k5 k6 k7
  simp at k0 k1 k2 k3 k4 k5 k6 k7
  obtain ⟨x0, rfl⟩ := k0
  obtain ⟨x1, rfl⟩ := k1
  obtain ⟨x2, rfl⟩ := k2
  obtain ⟨x3, rfl⟩ := k3
  obtain ⟨x4, rfl⟩ := k4
  obtain ⟨x5, rfl⟩ := k5
  obtain ⟨x6, rfl⟩ := k6
  obtain ⟨x7, rfl⟩ := k7
  exact ⟨x0, x1, x2, x3, x4, x5, x6, x7, congrArg Value.agg (Array.toList_inj.1 hc)⟩
end

theorem int_info : (Try.prog.info? 2).map (fun i => (i.zero, i.size, i.bytes)) = some (some (.int .i64 0), 1, 8) := by kernel_rfl
theorem below_of_grown {w w' : World} (h : w.grownBy w' none) : Below w.heap.size w w' := ⟨h.os, h.tape, h.output, h.size, fun i hi => h.block i hi (by simp)⟩
theorem ints_news {w : World} {hi : Nat} {a : Addr} {xs : List Int} (h : Ints w hi (some a) xs) : ∀ j u, (xs.map (Value.int .i64 ·))[j]? = some u → w.cell? (a.add j) = some u := by
  intro j u hu
  rw [List.getElem?_map] at hu
  rcases Nat.lt_or_ge j xs.length with hj | hj
  · rw [List.getElem?_eq_getElem hj] at hu
    obtain ⟨a', ha, _, hc⟩ := h.cell j hj
    cases ha
    simp at hu
    rw [hc, hu]
  · rw [List.getElem?_eq_none hj] at hu
    cases hu
/-- A slice that is empty, but not nil, appended to: as a step of a region that draws. -/
theorem step_clone {w : World} {ops : Array Oper} {o : Oper} {a : Act} {K : Act → World → Prop} {Q : Exit → Act → World → Prop} {E : Prop}
    (hg : o.guard = none) (s x : Operand) (hop : o.op = .call { callee := .builtin .append, args := #[s, x], argTypes := #[25, 25] })
    {gb : Addr} {A : Option Addr} {c hi : Nat} {xs : List Int} (hs : a.eval s = .slice (some gb) 0 0) (hx : a.eval x = .slice A xs.length c) (hI : Ints w hi A xs) (hlen : xs.length ≤ 1000)
    (hK : ∀ A' c' w', Ints w' w'.heap.size A' xs → Below w.heap.size w w' → K (a.put o.dst (.slice A' xs.length c')) w') :
    if Region.wanted o (yielded ops a.tmps) = true then Oper.wp Try.prog o a w K Q else E := by
  obtain ⟨i0, hi0, hz0, hz1, hz2⟩ := info_parts int_info
  by_cases h0 : xs = []
  · subst h0
    have hw : Region.wanted o (yielded ops a.tmps) = true := by simp [Region.wanted, hg]
    rw [if_pos hw]
    have hrun : (Builtin.append_ #[25, 25] o.type #[.slice (some gb) 0 0, .slice A 0 c]).run Try.prog w = .ok (.slice (some gb) 0 0) w := by
      cases A <;> simp [Builtin.append_, run_underlying Try.underlying25, sizeOf, typeInfo, hi0, Builtin.lenOf, Builtin.firstCells, storeCells, loadCells, loadCellsFrom]
    have := hK (some gb) 0 w ⟨by simp, fun k hk => absurd hk (by simp)⟩ (Below.refl _ _)
    unfold Oper.wp
    simp [execOp, hop, resolve, invoke, builtin, hs, hx, hrun, Result.andThen]
    exact this
  · have hpos : 0 < xs.length := by
      cases xs with
      | nil => exact absurd rfl h0
      | cons _ _ => simp
    obtain ⟨ad, hA, _, _⟩ := hI.cell 0 hpos
    subst hA
    refine step_append_grows (ops := ops) (Q := Q) (E := E) hg s x 25 hop 2 i0 _ 1 8 Try.underlying25 hi0 hz0 hz1 hz2 rfl (by omega) (some gb) 0 0 [] hs (by simp) rfl (by simp) ad xs.length c (xs.map (Value.int .i64 ·)) hx (by simp) (ints_news hI) (by simp [Value.oneCell']) (by omega) (by unfold maxLen; omega) (by omega) ?_
    intro v' w' hown hgrow
    simp only [Nat.zero_add, List.nil_append] at hown
    obtain ⟨g, cap, hv, hg1, hg2⟩ := hown.form hpos
    subst hv
    refine hK _ _ w' ⟨by omega, fun k hk => ⟨_, rfl, hg2, ?_⟩⟩ (below_of_grown hgrow)
    exact hown.cells (g := g) rfl k _ (by simp [hk])
end Go.Proofs.Ytlalknapmnadpaa
