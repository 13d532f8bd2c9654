/-
  CONTRACT OF seesawref10's Add, whatever is added; what both sets tell. Conditions: as they stand.
-/
import Derived.Test.YtmjaphcofimbeaaGq
namespace Go.Proofs.Ytmjaphcofimbeaa
set_option maxRecDepth 100000
open Go.RowKit Go.Deep
set_option linter.unusedVariables false
theorem readF_len (f : Nat → Bool) {st : Int} (h : st ≤ 32) : (readF f st).length ≤ 32 := by
  have := riseK_len f st.toNat
  simp only [readF, natsI, List.length_map]
  omega
theorem has_eq (f : Nat → Bool) (st n : Int) : (decide (0 ≤ n ∧ n < st) && f n.toNat) = decide (n ∈ readF f st) := by
  by_cases h : 0 ≤ n ∧ n < st
  · obtain ⟨k, rfl⟩ : ∃ k : Nat, n = k := ⟨n.toNat, by omega⟩
    rw [decide_eq_true h, Bool.true_and]
    apply Bool.eq_iff_iff.2
    rw [decide_eq_true_iff, mem_readF h.2]
    rfl
  · rw [decide_eq_false h, Bool.false_and]
    refine (decide_eq_false ?_).symm
    intro hm
    simp only [readF, natsI, List.mem_map, riseK, List.mem_filter, List.mem_range] at hm
    obtain ⟨j, ⟨hj, _⟩, rfl⟩ := hm
    exact h ⟨by omega, by omega⟩
theorem radd_any {w : World} {g lo : Nat} {V st : Int} {f : Nat → Bool} (h : RefAt w g lo V st (readF f st)) (n : Int) (hlo : lo ≤ w.heap.size) (s2 : st ≤ 32) : Calls Try.prog 10 #[.pointer (some ⟨g, 0, none⟩), .int .i64 n] w fun e w' => e = .returned (.int .i64 (if 0 ≤ n ∧ n < st then 0 else 1)) ∧ RefAt w' g lo V st (readF (addF st f n) st) ∧ (∀ b, b ≠ g → b < w.heap.size → w'.heap[b]? = w.heap[b]?) ∧ w.heap.size ≤ w'.heap.size ∧ (∀ (B : Nat) (w0 : World), B ≤ g → Below B w0 w → Below B w0 w') := by
  by_cases hn : 0 ≤ n ∧ n < st
  · obtain ⟨k, rfl⟩ : ∃ k : Nat, n = k := ⟨n.toNat, by omega⟩
    have hlen := readF_len f s2
    have ha : addF st f (k : Int) = upd f k := by unfold addF; rw [if_pos hn]; rfl
    rw [if_pos hn, ha]
    cases hf : f k with
    | true =>
      rw [upd_same hf]
      refine (radd_has h k hn ((mem_readF hn.2).2 hf)).mono ?_
      rintro e w' ⟨rfl, rfl⟩
      exact ⟨rfl, h, fun _ _ _ => rfl, Nat.le_refl _, fun _ _ _ h => h⟩
    | false =>
      rw [readF_upd hn.2 hf]
      refine (radd_ins h k hn (fun hm => ?_) hlo (by omega)).mono ?_
      · rw [(mem_readF hn.2).1 hm] at hf
        cases hf
      · rintro e w' ⟨rfl, h1⟩
        exact ⟨rfl, h1⟩
  · have ha : addF st f n = f := by unfold addF; rw [if_neg hn]
    rw [if_neg hn, ha]
    refine (radd_no h n hn).mono ?_
    rintro e w' ⟨rfl, rfl⟩
    exact ⟨rfl, h, fun _ _ _ => rfl, Nat.le_refl _, fun _ _ _ h => h⟩
theorem RefAt.c0 {w : World} {g lo : Nat} {V st : Int} {L : List Int} (h : RefAt w g lo V st L) : w.cell? ⟨g, 0, none⟩ = some (.int .i64 V) := by
  obtain ⟨A, c, hr, _⟩ := h.ex
  simp [World.cell?, hr]
theorem SetAt.unlike {w : World} {ga gb lo : Nat} {rv st V st' : Int} {f : Nat → Bool} {L : List Int} (h : SetAt w ga rv st f) (h' : RefAt w gb lo V st' L) : ga ≠ gb := by
  rintro rfl
  obtain ⟨A, c, hr, _⟩ := h'.ex
  have := h.row.symm.trans hr
  injection this with this
  injection this with h1 h2
  exact absurd h2 (by decide)
end Go.Proofs.Ytmjaphcofimbeaa
