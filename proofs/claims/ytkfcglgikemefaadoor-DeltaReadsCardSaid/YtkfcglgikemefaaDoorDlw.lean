/-
  FOR THE LAWS OF LAYER 14: an argument of type []api.Event, opened. Conditions: none.
-/
import Derived.Test.YtkfcglgikemefaaDoorOe
import Derived.Test.YtkfcglgikemefaaDoorWs
namespace Go.Proofs.YtkfcglgikemefaaDoor
set_option maxRecDepth 100000
open Go.ChangeShapes Go.WideShapes Go.RowKit Go.Deep
set_option linter.unusedVariables false
section
variable {H : Type} {enc : TypeId × Value → H} {w : World} {base : Nat} {spare : Nat → Bool} {held : Bool}
theorem open_events {r : Reach} {b0 : Nat} {v : Value} {d : DataW H} {ps : List MemPlace} (hv : Value.okWide Tryd.prog w r b0 22 v) (h : DataW.Trod enc Tryd.prog w base spare held 22 v d ps) :
    ∃ (A : Option Addr) (L : List Ev) (c : Nat), v = .slice A L.length c ∧ L.length ≤ 9223372036854775807 ∧ EvsAt w w.heap.size A L ∧ L.length ≤ c := by
  obtain ⟨fuel, hf⟩ := h
  obtain ⟨A0, n0, c0, rfl⟩ := okWide_slice Tryd.underlying22 hv
  rcases DataW.trod_slice Tryd.underlying22 hf with ⟨hn, _⟩ | ⟨a, len, cap, elems, rest, n, hm, hs, hyy, hb, hle, hmx, hlen, hel2, hsp, hns⟩
  · simp [Value.cells] at hn
    obtain ⟨rfl, rfl, rfl⟩ := hn
    exact ⟨none, [], 0, rfl, by simp, fun k hk => absurd hk (by simp), by simp⟩
  · simp [Value.cells] at hs
    obtain ⟨rfl, rfl, rfl⟩ := hs
    have hst : ∀ i, i < n0 → ∃ e : Ev, EvAt w (a.add (i * 7)) e := fun i hi => by
      have hh := hel2 i hi
      rw [List.getElem?_eq_getElem (by omega), Option.bind_eq_some_iff] at hh
      obtain ⟨cs', hc', ht⟩ := hh
      rw [ev_cellsW] at hc'
      obtain ⟨_, hl7, hat⟩ := World.cells?_some hc'
      obtain ⟨e, ok, he⟩ := open_cellsW hl7 ht
      subst he
      exact ⟨e, hat 0 (by omega), hat 1 (by omega), hat 2 (by omega), hat 3 (by omega), hat 4 (by omega), hat 5 (by omega), hat 6 (by omega), ok⟩
    obtain ⟨F, hF⟩ := choose_lt hst
    have hl2 : ((List.range n0).map F).length = n0 := by simp
    unfold maxLen at hmx
    refine ⟨some a, (List.range n0).map F, c0, by rw [hl2], by rw [hl2]; omega, fun i hi => ?_, by rw [hl2]; exact hle⟩
    rw [hl2] at hi
    have hg : nthE ((List.range n0).map F) i = F i := by
      rw [nthE, List.getD_eq_getElem?_getD, List.getElem?_map, List.getElem?_range hi]
      rfl
    rw [hg]
    have hp := hF i hi
    have hlt := there_blockW hp.c0
    exact ⟨a, rfl, by rwa [add_blockO] at hlt, hp⟩
end
end Go.Proofs.YtkfcglgikemefaaDoor
