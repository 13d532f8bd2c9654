/-
  WORDS FOR LAYER 10 (package readset): arguments of type []int; whether two lists of numbers are the same. No condition but those that stand.
-/
import Derived.Test.YtmjaphcofimbeaaUa
import Derived.Test.YtmjaphcofimbeaaEo
import Derived.Deep.QuietTactic
import Derived.BigQuiet
namespace Go.Proofs.Ytmjaphcofimbeaa
set_option maxRecDepth 100000
open Go.RowKit Go.ChangeShapes Go.WideShapes Go.Deep
set_option linter.unusedVariables false
theorem cells_int10 : Try.prog.cellsOf 3 = 1 := by kernel_rfl
section
variable {H : Type} {enc : TypeId × Value → H} {w : World} {base : Nat} {spare : Nat → Bool} {held : Bool}
/-- An argument of type []int. -/
theorem open_nums10 {r : Reach} {b0 : Nat} {v : Value} {d : DataW H} {ps : List MemPlace} (hv : Value.okWide Try.prog w r b0 22 v) (h : DataW.Trod enc Try.prog w base spare held 22 v d ps) :
    ∃ (A : Option Addr) (c : Nat) (L : List Int), v = .slice A L.length c ∧ Ints w w.heap.size A L := by
  obtain ⟨fuel, hf⟩ := h
  obtain ⟨A, n0, c0, rfl⟩ := okWide_slice Try.underlying22 hv
  rcases open_ints Try.underlying22 Try.underlying3 cells_int10 hf with ⟨hcs, _⟩ | ⟨a, len, cap, zs, hcs, hb, hl, hm, hz, _, hc, hw⟩
  · simp [Value.cells] at hcs
    obtain ⟨rfl, rfl, rfl⟩ := hcs
    exact ⟨none, 0, [], rfl, ⟨by simp, fun k hk => absurd hk (by simp)⟩⟩
  · simp [Value.cells] at hcs
    obtain ⟨rfl, rfl, rfl⟩ := hcs
    have hlz : n0 ≤ zs.length := by rw [hz]; split <;> omega
    have hlen : (zs.take n0).length = n0 := by simp; omega
    unfold maxLen at hm
    refine ⟨some a, c0, zs.take n0, by rw [hlen], by rw [hlen]; omega, fun k hk => ?_⟩
    rw [hlen] at hk
    have c := hc k (by omega)
    rw [List.getD_eq_getElem?_getD, List.getElem?_eq_getElem (by omega)] at c
    refine ⟨a, rfl, ?_, ?_⟩
    · have := block_there c
      rwa [ad_block] at this
    · rw [c, List.getElem_take]
      rfl

end
theorem ints_drop {a b : List Int} {k : Nat} (hl : a.length = b.length) (hk : k < a.length) (h : a.take k = b.take k) : (a.take (k + 1) = b.take (k + 1)) ↔ a[k] = b[k]'(by omega) := by
  rw [List.take_succ_eq_append_getElem hk, List.take_succ_eq_append_getElem (by omega : k < b.length), h]
  constructor
  · intro h2
    have := List.append_cancel_left h2
    simpa using this
  · intro h2
    rw [h2]
theorem drewN_below2 (w : World) (n : Nat) : Below w.heap.size w (w.drewN n) := ⟨rfl, rfl, rfl, Nat.le_refl _, fun _ _ => rfl⟩
set_option maxRecDepth 100000 in
theorem numbers_same (L M : List Int) (A B : Option Addr) (c c' hi hi' : Nat) (w : World) (hA : Ints w hi A L) (hB : Ints w hi' B M) (hhi : hi ≤ w.heap.size) (hhi' : hi' ≤ w.heap.size) :
    Calls Try.prog 12 #[.slice A L.length c, .slice B M.length c'] w fun e w' => e = .returned (.bool (decide (L = M))) ∧ Below w.heap.size w w' := by
  have l1 := hA.len
  have l2 := hB.len
  by_cases hl : L.length = M.length
  · have hC := Lib.hid (fun k (h1 : k < L.length) (h2 : k < M.length) => And.intro (hA.cell k h1) (hB.cell k h2))
    have HT := Lib.hid (fun k (hk : k < L.length) => ints_drop (a := L) (b := M) (k := k) hl hk)
    obtain ⟨x, hx⟩ : ∃ x, x = L.length := ⟨_, rfl⟩
    obtain ⟨y, hy⟩ : ∃ y, y = M.length := ⟨_, rfl⟩
    have HX := Lib.hid hx
    have HY := Lib.hid hy
    rw [← hx, ← hy]
    rw [← hx] at l1 hl
    rw [← hy] at hl l2
    have i0 : ((x : Int) != (y : Int)) = false := bne_eq_false_iff_eq.2 (by omega)
    clear hx hy hA hB
    go_enter Try.func12, Try.ntmps12
    go_wp2_with fail
    go_loopw [5] (fun i wr => ∃ k : Nat, k ≤ x ∧ i = .int .i64 k ∧ Hid (L.take k = M.take k) ∧ Hid (Below w.heap.size w wr)) (fun i _ => x - (intOf i).toNat)
    case atStart => exact ⟨0, by omega, by go_num, rfl, Below.refl _ _⟩
    case round =>
      obtain ⟨k, hk, rfl, HK, hO⟩ := hrel
      by_cases hlt : k < x
      · obtain ⟨⟨p, rfl, m1, d1⟩, ⟨q, rfl, m2, d2⟩⟩ := hC.out k (by have := HX.out; omega) (by have := HY.out; omega)
        have f1 := (hO.out.cell (p := p.add k) (by rw [ad_block]; omega)).trans d1
        have f2 := (hO.out.cell (p := q.add k) (by rw [ad_block]; omega)).trans d2
        have hT := (HT.out k (by have := HX.out; omega) HK.out)
        obtain ⟨u, hu⟩ : ∃ u, u = L[k]'(by have := HX.out; omega) := ⟨_, rfl⟩
        obtain ⟨v, hv⟩ : ∃ v, v = M[k]'(by have := HY.out; omega) := ⟨_, rfl⟩
        rw [← hu] at f1
        rw [← hv] at f2
        rw [← hu, ← hv] at hT
        have HT2 := Lib.hid hT
        clear d1 d2 hu hv hC hT m1 m2
        by_cases huv : u = v
        · have i2 : (u != v) = false := bne_eq_false_iff_eq.2 huv
          have HN : Hid (L.take (k + 1) = M.take (k + 1)) := HT2.out.2 huv
          clear huv
          go_wp2_with fail
          go_quiet (fail)
          go_wp2_with fail
          go_roundw
          case rel => exact ⟨k + 1, by omega, by go_num, HN, hO.out.trans ((drewN_below2 wr _).mono hO.out.size)⟩
          case measure => simp [intOf]; omega
        · have i2 : (u != v) = true := bne_iff_ne.2 huv
          have HN : Hid (L ≠ M) := fun h => huv (HT2.out.1 (by rw [h]))
          clear huv
          go_wp2_with fail
          go_quiet (fail)
          go_wp2_with fail
          go_ret
          exact ⟨by rw [decide_eq_false HN.out]; rfl, hO.out.trans ((drewN_below2 wr _).mono hO.out.size)⟩
      · have HN : Hid (L = M) := by
          have h1 := HK.out
          have h2 := HX.out
          have h3 := HY.out
          rw [List.take_of_length_le (by omega), List.take_of_length_le (by omega)] at h1
          exact h1
        clear HK HT hC
        go_wp2_with fail
        go_ret
        exact ⟨by rw [decide_eq_true HN.out]; rfl, hO.out⟩
  · have HN : Hid (decide (L = M) = false) := decide_eq_false (fun h => hl (by rw [h]))
    obtain ⟨x, hx⟩ : ∃ x, x = L.length := ⟨_, rfl⟩
    obtain ⟨y, hy⟩ : ∃ y, y = M.length := ⟨_, rfl⟩
    rw [← hx, ← hy]
    rw [← hx] at l1 hl
    rw [← hy] at hl l2
    have i0 : ((x : Int) != (y : Int)) = true := bne_iff_ne.2 (by omega)
    clear hx hy hA hB
    go_enter Try.func12, Try.ntmps12
    go_wp2_with fail
    go_ret
    exact ⟨by rw [HN.out]; rfl, Below.refl _ _⟩
end Go.Proofs.Ytmjaphcofimbeaa
