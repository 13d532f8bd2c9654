/-
  WORDS FOR LAYER 10 (package readset): arguments of type []int; whether two lists of numbers are the same. No condition but those that stand.
-/
import Derived.Test.YtokhcogmoleocaaUa
import Derived.Test.YtokhcogmoleocaaEo
import Derived.Deep.QuietTactic
import Derived.BigQuiet
namespace Go.Proofs.Ytokhcogmoleocaa
set_option maxRecDepth 100000
open Go.RowKit Go.ChangeShapes Go.WideShapes Go.Deep
set_option linter.unusedVariables false
theorem cells_int10 : Try.prog.cellsOf 3 = 1 := by kernel_rfl
section
variable {H : Type} {enc : TypeId × Value → H} {w : World} {base : Nat} {spare : Nat → Bool} {held : Bool}
/-- An argument of type []int. -/
theorem open_nums10 {r : Reach} {b0 : Nat} {v : Value} {d : DataW H} {ps : List MemPlace} (hv : Value.okWide Try.prog w r b0 35 v) (h : DataW.Trod enc Try.prog w base spare held 35 v d ps) :
    ∃ (A : Option Addr) (c : Nat) (L : List Int), v = .slice A L.length c ∧ Ints w w.heap.size A L := by
  obtain ⟨fuel, hf⟩ := h
  obtain ⟨A, n0, c0, rfl⟩ := okWide_slice Try.underlying35 hv
  rcases open_ints Try.underlying35 Try.underlying3 cells_int10 hf with ⟨hcs, _⟩ | ⟨a, len, cap, zs, hcs, hb, hl, hm, hz, _, hc, hw⟩
  · simp [Value.cells] at hcs
    obtain ⟨rfl, rfl, rfl⟩ := hcs
    exact ⟨none, 0, [], rfl, ⟨by simp, fun k hk => absurd hk (by simp)⟩⟩
  · simp [Value.cells] at hcs
    obtain ⟨rfl, rfl, rfl⟩ := hcs
    have hlz : n0 ≤ zs.length := by rw [hz]; split <;> omega
    have hlen : (zs.take n0).length = n0 := by simp; omega
    unfold maxLen at hm
    refine ⟨some a, c0, zs.take n0, by rw [hlen], by rw [hlen]; omega, fun k hk => ?_⟩
    rw [hlen] at hk
    have c := hc k (by omega)
    rw [List.getD_eq_getElem?_getD, List.getElem?_eq_getElem (by omega)] at c
    refine ⟨a, rfl, ?_, ?_⟩
    · have := block_there c
      rwa [ad_block] at this
    · rw [c, List.getElem_take]
      rfl

end
theorem ints_drop {a b : List Int} {k : Nat} (hl : a.length = b.length) (hk : k < a.length) (h : a.take k = b.take k) : (a.take (k + 1) = b.take (k + 1)) ↔ a[k] = b[k]'(by omega) := by
  rw [List.take_succ_eq_append_getElem hk, List.take_succ_eq_append_getElem (by omega : k < b.length), h]
  constructor
  · intro h2
    have := List.append_cancel_left h2
    simpa using this
  · intro h2
    rw [h2]
theorem drewN_below2 (w : World) (n : Nat) : Below w.heap.size w (w.drewN n) := ⟨rfl, rfl, rfl, Nat.le_refl _, fun _ _ => rfl⟩
end Go.Proofs.Ytokhcogmoleocaa
