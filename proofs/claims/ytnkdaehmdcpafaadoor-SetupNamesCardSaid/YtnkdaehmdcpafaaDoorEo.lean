/-
  AN ARGUMENT OF TYPE api.Expr, OPENED: it is a tree that lies in memory (off the reading of data). No condition.
-/
import Derived.Test.YtnkdaehmdcpafaaDoorEm
import Derived.Deep.Slices
import Derived.Deep.Fields
import Derived.LoopTactic
import Derived.ChangeSlices
namespace Go.Proofs.YtnkdaehmdcpafaaDoor
open Go.ChangeShapes Go.WideShapes Go.RowKit Go.Deep
set_option linter.unusedVariables false
section
variable {H : Type} {enc : TypeId × Value → H} {w : World} {base : Nat} {spare : Nat → Bool} {held : Bool}
theorem wf_u8 {n : Int} (h : (Lit.int .u8 n).wf = true) : 0 ≤ n ∧ n ≤ 255 := by simpa [Lit.wf, IntKind.min, IntKind.max, IntKind.signed, IntKind.bits] using h
theorem wf_i64 {n : Int} (h : (Lit.int .i64 n).wf = true) : -9223372036854775808 ≤ n ∧ n ≤ 9223372036854775807 := by simpa [Lit.wf, IntKind.min, IntKind.max, IntKind.signed, IntKind.bits] using h
theorem one_of {α : Type} {cs : List α} {j n : Nat} (hl : cs.length = n) (h : j < n) : ∃ v, (cs.drop j).take 1 = [v] ∧ cs[j]? = some v := by
  refine ⟨cs[j]'(by omega), ?_, List.getElem?_eq_getElem (by omega)⟩
  rw [List.drop_eq_getElem_cons (by omega)]
  rfl
theorem expr_cells : Tryd.prog.cellsOf 37 = 3 := by kernel_rfl
theorem cells_u8 : Tryd.prog.cellsOf 5 = 1 := by kernel_rfl
theorem cells_i64 : Tryd.prog.cellsOf 2 = 1 := by kernel_rfl
theorem cells_sl : Tryd.prog.cellsOf 35 = 1 := by kernel_rfl
theorem block_there {p : Addr} {v : Value} (h : w.cell? p = some v) : p.block < w.heap.size := by
  unfold World.cell? at h
  rcases Nat.lt_or_ge p.block w.heap.size with hh | hh
  · exact hh
  · rw [Array.getElem?_eq_none hh] at h; simp at h
theorem open_tree (N : Nat) : ∀ (fuel : Nat) (cs : List Value) (x : DataW H × List MemPlace), fuel ≤ N → DataW.trod enc Tryd.prog w base spare held fuel 37 cs = some x →
    ∃ (v0 v1 v2 : Value) (e : Ex), cs = [v0, v1, v2] ∧ At w 0 w.heap.size fuel (.agg #[v0, v1, v2]) e := by
  induction N with
  | zero =>
    intro fuel cs x hN h
    obtain rfl : fuel = 0 := by omega
    cases h
  | succ N ih =>
    intro fuel cs x hN h
    obtain ⟨xs, m, rfl, _, hl, hxl, hf⟩ := DataW.trod_struct Tryd.underlying37 h
    rw [expr_cells] at hl
    obtain ⟨v0, t0, g0⟩ := one_of hl (show 0 < 3 by omega)
    obtain ⟨v1, t1, g1⟩ := one_of hl (show 1 < 3 by omega)
    obtain ⟨v2, t2, g2⟩ := one_of hl (show 2 < 3 by omega)
    have hcs : cs = [v0, v1, v2] := by
      match cs, hl with
      | [a, b, c], _ => simp at g0 g1 g2; rw [g0, g1, g2]
    have hx : xs.length = 3 := hxl
    obtain ⟨y0, _, z0⟩ := one_of hx (show 0 < 3 by omega)
    obtain ⟨y1, _, z1⟩ := one_of hx (show 1 < 3 by omega)
    obtain ⟨y2, _, z2⟩ := one_of hx (show 2 < 3 by omega)
    have h0 : DataW.trod enc Tryd.prog w base spare held m 5 ((cs.drop 0).take (Tryd.prog.cellsOf 5)) = xs[0]? := hf 0 _ rfl
    have h1 : DataW.trod enc Tryd.prog w base spare held m 2 ((cs.drop 1).take (Tryd.prog.cellsOf 2)) = xs[1]? := hf 1 _ rfl
    have h2 : DataW.trod enc Tryd.prog w base spare held m 35 ((cs.drop 2).take (Tryd.prog.cellsOf 35)) = xs[2]? := hf 2 _ rfl
    simp only [cells_u8, cells_i64, cells_sl, t0, t1, t2, z0, z1, z2] at h0 h1 h2
    obtain ⟨a0, e0, _, w0⟩ := DataW.trod_int Tryd.underlying5 h0
    obtain ⟨a1, e1, _, w1⟩ := DataW.trod_int Tryd.underlying2 h1
    cases e0; cases e1
    have b0 := wf_u8 w0
    have b1 := wf_i64 w1
    obtain ⟨k0, rfl⟩ := Int.eq_ofNat_of_zero_le b0.1
    rcases DataW.trod_slice Tryd.underlying35 h2 with ⟨hn, _⟩ | ⟨a, len, cap, elems, rest, n, hm, hs, hyy, hb, hle, hmx, hlen, hel, hsp, hns⟩
    · cases hn
      exact ⟨_, _, _, .node k0 a1 [], hcs, by omega, b1.1, by omega, by simp, none, 0, rfl, fun k hk => absurd hk (by simp)⟩
    · cases hs
      subst hm
      have hst : ∀ i, i < len → ∃ e : Ex, ∃ x y z, w.cell? (a.add (i * 3)) = some x ∧ w.cell? ⟨(a.add (i * 3)).block, (a.add (i * 3)).off + 1, none⟩ = some y ∧ w.cell? ⟨(a.add (i * 3)).block, (a.add (i * 3)).off + 2, none⟩ = some z ∧ At w 0 w.heap.size n (.agg #[x, y, z]) e := fun i hi => by
        have hh := hel i hi
        rw [List.getElem?_eq_getElem (by omega), Option.bind_eq_some_iff] at hh
        obtain ⟨cs', hc, ht⟩ := hh
        rw [expr_cells] at hc
        obtain ⟨x, y, z, e, rfl, hA⟩ := ih n cs' _ (by omega) ht
        obtain ⟨_, _, hat⟩ := World.cells?_some hc
        exact ⟨e, x, y, z, hat 0 (by omega), hat 1 (by omega), hat 2 (by omega), hA⟩
      obtain ⟨F, hF⟩ := choose_lt hst
      have hl2 : ((List.range len).map F).length = len := by simp
      unfold maxLen at hmx
      refine ⟨_, _, _, .node k0 a1 ((List.range len).map F), hcs, by omega, b1.1, by omega, by rw [hl2]; omega, some a, cap, by rw [hl2], fun k hk => ?_⟩
      rw [hl2] at hk
      obtain ⟨x, y, z, c1, c2, c3, hA⟩ := hF k hk
      refine ⟨a, x, y, z, rfl, Nat.zero_le _, ?_, c1, c2, c3, ?_⟩
      · have := block_there c1
        rwa [ad_block] at this
      · rw [List.getElem_map, List.getElem_range]
        exact hA.more _ _ (by omega)

/-- An argument of type []int64. -/
theorem open_nums {r : Reach} {b0 : Nat} {v : Value} {d : DataW H} {ps : List MemPlace} (hv : Value.okWide Tryd.prog w r b0 22 v) (h : DataW.Trod enc Tryd.prog w base spare held 22 v d ps) :
    ∃ (A : Option Addr) (c : Nat) (L : List Int), v = .slice A L.length c ∧ Ints w w.heap.size A L := by
  obtain ⟨fuel, hf⟩ := h
  obtain ⟨A, n0, c0, rfl⟩ := okWide_slice Tryd.underlying22 hv
  rcases open_ints Tryd.underlying22 Tryd.underlying2 cells_i64 hf with ⟨hcs, _⟩ | ⟨a, len, cap, zs, hcs, hb, hl, hm, hz, _, hc, hw⟩
  · simp [Value.cells] at hcs
    obtain ⟨rfl, rfl, rfl⟩ := hcs
    exact ⟨none, 0, [], rfl, ⟨by simp, fun k hk => absurd hk (by simp)⟩⟩
  · simp [Value.cells] at hcs
    obtain ⟨rfl, rfl, rfl⟩ := hcs
    have hlz : n0 ≤ zs.length := by rw [hz]; split <;> omega
    have hlen : (zs.take n0).length = n0 := by simp; omega
    unfold maxLen at hm
    refine ⟨some a, c0, zs.take n0, by rw [hlen], by rw [hlen]; omega, fun k hk => ?_⟩
    rw [hlen] at hk
    have c := hc k (by omega)
    rw [List.getD_eq_getElem?_getD, List.getElem?_eq_getElem (by omega)] at c
    refine ⟨a, rfl, ?_, ?_⟩
    · have := block_there c
      rwa [ad_block] at this
    · rw [c, List.getElem_take]
      rfl

/-- An argument of type api.Expr. -/
theorem open_expr {r : Reach} {b0 : Nat} {v : Value} {d : DataW H} {ps : List MemPlace} (hv : Value.okWide Tryd.prog w r b0 37 v) (h : DataW.Trod enc Tryd.prog w base spare held 37 v d ps) :
    ∃ (n : Nat) (e : Ex), At w 0 w.heap.size n v e := by
  obtain ⟨fuel, hf⟩ := h
  obtain ⟨cs, rfl, _⟩ := okWide_struct Tryd.underlying37 hv
  obtain ⟨v0, v1, v2, e, hcs, hA⟩ := open_tree fuel fuel _ _ (Nat.le_refl _) hf
  refine ⟨fuel, e, ?_⟩
  have : cs = #[v0, v1, v2] := Array.toList_inj.1 hcs
  rw [this]
  exact hA
end
end Go.Proofs.YtnkdaehmdcpafaaDoor
