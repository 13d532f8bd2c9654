/-
  AN ARGUMENT OF TYPE api.Setup, OPENED: it is a setup that lies in memory (off the reading of data). No condition.
-/
import Derived.Test.YtnkdaehmdcpafaaDoorEo
import Derived.Test.YtnkdaehmdcpafaaDoorUm
import Derived.Test.YtnkdaehmdcpafaaDoorCv
namespace Go.Proofs.YtnkdaehmdcpafaaDoor
open Go.ChangeShapes Go.WideShapes Go.RowKit Go.Deep
set_option linter.unusedVariables false
section
variable {H : Type} {enc : TypeId × Value → H} {w : World} {base : Nat} {spare : Nat → Bool} {held : Bool}
theorem stmt_cells6 : Tryd.prog.cellsOf 39 = 10 := by kernel_rfl
theorem cells_int6 : Tryd.prog.cellsOf 3 = 1 := by kernel_rfl
theorem cells_stmts6 : Tryd.prog.cellsOf 34 = 1 := by kernel_rfl
theorem cells_txs6 : Tryd.prog.cellsOf 33 = 1 := by kernel_rfl
theorem cells_thr6 : Tryd.prog.cellsOf 23 = 1 := by kernel_rfl
theorem cells_ints6 : Tryd.prog.cellsOf 22 = 1 := by kernel_rfl
/-- A slice, element by element. -/
theorem open_slice {α : Type} [Inhabited α] {tS tE : TypeId} {size : Nat} (hu : Tryd.prog.underlying tS = some (.slice tE)) (hc : Tryd.prog.cellsOf tE = size) (Q : List Value → α → Prop) {fuel : Nat} {cs : List Value} {x : DataW H × List MemPlace}
    (hel : ∀ (m : Nat) (cs : List Value) (x : DataW H × List MemPlace), m < fuel → DataW.trod enc Tryd.prog w base spare held m tE cs = some x → ∃ a, Q cs a)
    (h : DataW.trod enc Tryd.prog w base spare held fuel tS cs = some x) :
    ∃ (A : Option Addr) (L : List α) (c : Nat), cs = [.slice A L.length c] ∧ L.length ≤ 9223372036854775807 ∧ ∀ k (hk : k < L.length), ∃ a cs', A = some a ∧ cs'.length = size ∧ (∀ i, i < size → w.cell? ((a.add (k * size)).add i) = cs'[i]?) ∧ Q cs' L[k] := by
  rcases DataW.trod_slice hu h with ⟨hn, _⟩ | ⟨a, len, cap, elems, rest, n, hm, hs, hyy, hb, hle, hmx, hlen, hel2, hsp, hns⟩
  · subst hn
    exact ⟨none, [], 0, rfl, by simp, fun k hk => absurd hk (by simp)⟩
  · subst hs
    subst hm
    have hst : ∀ i, i < len → ∃ e : α, ∃ cs', w.cells? base (a.add (i * size)) size = some cs' ∧ Q cs' e := fun i hi => by
      have hh := hel2 i hi
      rw [List.getElem?_eq_getElem (by omega), Option.bind_eq_some_iff] at hh
      obtain ⟨cs', hc', ht⟩ := hh
      rw [hc] at hc'
      obtain ⟨e, he⟩ := hel n cs' _ (by omega) ht
      exact ⟨e, cs', hc', he⟩
    obtain ⟨F, hF⟩ := choose_lt hst
    have hl2 : ((List.range len).map F).length = len := by simp
    unfold maxLen at hmx
    refine ⟨some a, (List.range len).map F, cap, by rw [hl2], by rw [hl2]; omega, fun k hk => ?_⟩
    rw [hl2] at hk
    obtain ⟨cs', c1, hq⟩ := hF k hk
    obtain ⟨q1, q2, hat⟩ := World.cells?_some c1
    exact ⟨a, cs', rfl, q2, hat, by rw [List.getElem_map, List.getElem_range]; exact hq⟩
theorem ten_of {cs : List Value} {v0 v1 v2 v3 v4 v5 v6 v7 v8 v9 : Value} (hl : cs.length = 10) (h0 : cs[0]? = some v0) (h1 : cs[1]? = some v1) (h2 : (cs.drop 2).take 3 = [v2, v3, v4]) (h5 : (cs.drop 5).take 3 = [v5, v6, v7]) (h8 : cs[8]? = some v8) (h9 : cs[9]? = some v9) : cs = [v0, v1, v2, v3, v4, v5, v6, v7, v8, v9] := by
  match cs, hl with
  | [a, b, c, d, e, f, g, i, j, k], _ =>
    simp at h0 h1 h2 h5 h8 h9
    obtain ⟨rfl, rfl, rfl⟩ := h2
    obtain ⟨rfl, rfl, rfl⟩ := h5
    subst h0 h1 h8 h9
    rfl
theorem open_stmt (N : Nat) : ∀ (fuel : Nat) (cs : List Value) (x : DataW H × List MemPlace), fuel ≤ N → DataW.trod enc Tryd.prog w base spare held fuel 39 cs = some x →
    ∃ (r : Raw) (s : St), cs = r.cells ∧ SAt w 0 w.heap.size fuel r s := by
  induction N with
  | zero =>
    intro fuel cs x hN h
    obtain rfl : fuel = 0 := by omega
    cases h
  | succ N ih =>
    intro fuel cs x hN h
    obtain ⟨xs, m, rfl, _, hl, hxl, hf⟩ := DataW.trod_struct Tryd.underlying39 h
    rw [stmt_cells6] at hl
    obtain ⟨v0, t0, g0⟩ := one_of hl (show 0 < 10 by omega)
    obtain ⟨v1, t1, g1⟩ := one_of hl (show 1 < 10 by omega)
    obtain ⟨v8, t8, g8⟩ := one_of hl (show 8 < 10 by omega)
    obtain ⟨v9, t9, g9⟩ := one_of hl (show 9 < 10 by omega)
    have hx : xs.length = 6 := hxl
    obtain ⟨y0, _, z0⟩ := one_of hx (show 0 < 6 by omega)
    obtain ⟨y1, _, z1⟩ := one_of hx (show 1 < 6 by omega)
    obtain ⟨y2, _, z2⟩ := one_of hx (show 2 < 6 by omega)
    obtain ⟨y3, _, z3⟩ := one_of hx (show 3 < 6 by omega)
    obtain ⟨y4, _, z4⟩ := one_of hx (show 4 < 6 by omega)
    obtain ⟨y5, _, z5⟩ := one_of hx (show 5 < 6 by omega)
    have h0 : DataW.trod enc Tryd.prog w base spare held m 5 ((cs.drop 0).take (Tryd.prog.cellsOf 5)) = xs[0]? := hf 0 _ rfl
    have h1 : DataW.trod enc Tryd.prog w base spare held m 3 ((cs.drop 1).take (Tryd.prog.cellsOf 3)) = xs[1]? := hf 1 _ rfl
    have h2 : DataW.trod enc Tryd.prog w base spare held m 37 ((cs.drop 2).take (Tryd.prog.cellsOf 37)) = xs[2]? := hf 2 _ rfl
    have h3 : DataW.trod enc Tryd.prog w base spare held m 37 ((cs.drop 5).take (Tryd.prog.cellsOf 37)) = xs[3]? := hf 3 _ rfl
    have h4 : DataW.trod enc Tryd.prog w base spare held m 34 ((cs.drop 8).take (Tryd.prog.cellsOf 34)) = xs[4]? := hf 4 _ rfl
    have h5 : DataW.trod enc Tryd.prog w base spare held m 34 ((cs.drop 9).take (Tryd.prog.cellsOf 34)) = xs[5]? := hf 5 _ rfl
    simp only [cells_u8, cells_int6, cells_stmts6, t0, t1, t8, t9, z0, z1, z2, z3, z4, z5] at h0 h1 h2 h3 h4 h5
    obtain ⟨a0, e0, _, w0⟩ := DataW.trod_int Tryd.underlying5 h0
    obtain ⟨a1, e1, _, w1⟩ := DataW.trod_int Tryd.underlying3 h1
    cases e0; cases e1
    have b0 := wf_u8 w0
    have b1 := wf_i64 w1
    obtain ⟨k0, rfl⟩ := Int.eq_ofNat_of_zero_le b0.1
    obtain ⟨u2, u3, u4, ea, hca, hA⟩ := open_tree m m _ _ (Nat.le_refl _) h2
    obtain ⟨u5, u6, u7, eb, hcb, hB⟩ := open_tree m m _ _ (Nat.le_refl _) h3
    rw [expr_cells] at hca hcb
    have hQ : ∀ (n : Nat) (cs : List Value) (x : DataW H × List MemPlace), n < m → DataW.trod enc Tryd.prog w base spare held n 39 cs = some x → ∃ s : St, (fun cs s => ∃ r : Raw, cs = r.cells ∧ SAt w 0 w.heap.size m r s) cs s := fun n cs x hn ht => by
      obtain ⟨r, s, hr, hs⟩ := ih n cs x (by omega) ht
      exact ⟨s, r, hr, hs.more _ _ (by omega)⟩
    obtain ⟨yA, y, yc, hy, yl, hyk⟩ := open_slice Tryd.underlying34 stmt_cells6 _ hQ h4
    obtain ⟨eA, e, ec, he, el, hek⟩ := open_slice Tryd.underlying34 stmt_cells6 _ hQ h5
    cases hy; cases he
    have hcs := ten_of hl g0 g1 hca hcb g8 g9
    have hkids : ∀ {A : Option Addr} {L : List St}, (∀ k (hk : k < L.length), ∃ a cs', A = some a ∧ cs'.length = 10 ∧ (∀ i, i < 10 → w.cell? ((a.add (k * 10)).add i) = cs'[i]?) ∧ ∃ r : Raw, cs' = r.cells ∧ SAt w 0 w.heap.size m r L[k]) → ∀ j (h : j < L.length), ∃ p q, A = some p ∧ 0 ≤ p.block ∧ p.block < w.heap.size ∧ Ten w (p.add (j * 10)) q ∧ SAt w 0 w.heap.size m q L[j] := fun hh j hj => by
      obtain ⟨a, cs', rfl, hlc, hat, r, rfl, hs⟩ := hh j hj
      have ht : Ten w (a.add (j * 10)) r := ⟨hat 0 (by omega), hat 1 (by omega), hat 2 (by omega), hat 3 (by omega), hat 4 (by omega), hat 5 (by omega), hat 6 (by omega), hat 7 (by omega), hat 8 (by omega), hat 9 (by omega)⟩
      refine ⟨a, r, rfl, Nat.zero_le _, ?_, ht, hs⟩
      have := block_there ht.c0
      rwa [ad_block] at this
    obtain ⟨op1, n1, args1⟩ := ea
    obtain ⟨op2, n2, args2⟩ := eb
    have hA' := hA
    have hB' := hB
    obtain ⟨m, rfl⟩ : ∃ q, m = q + 1 := by
      cases m with
      | zero => exact hA.elim
      | succ q => exact ⟨q, rfl⟩
    obtain ⟨_, _, _, _, A1, c1, hv1, _⟩ := hA.open_
    obtain ⟨_, _, _, _, A2, c2, hv2, _⟩ := hB.open_
    have hw1 : u2 = .int .u8 op1 ∧ u3 = .int .i64 n1 ∧ u4 = .slice A1 args1.length c1 := by simpa using Value.agg.inj hv1
    have hw2 : u5 = .int .u8 op2 ∧ u6 = .int .i64 n2 ∧ u7 = .slice A2 args2.length c2 := by simpa using Value.agg.inj hv2
    obtain ⟨rfl, rfl, rfl⟩ := hw1
    obtain ⟨rfl, rfl, rfl⟩ := hw2
    refine ⟨⟨k0, a1, op1, n1, A1, args1.length, c1, op2, n2, A2, args2.length, c2, yA, y.length, yc, eA, e.length, ec⟩, .node k0 a1 (.node op1 n1 args1) (.node op2 n2 args2) y e, hcs, ⟨rfl, rfl, rfl, rfl⟩, ⟨by omega, b1.1, by omega, yl, el⟩, hA', hB', hkids hyk, hkids hek⟩
/-- An argument of type api.Setup. -/
theorem open_setup {r : Reach} {b0 : Nat} {v : Value} {d : DataW H} {ps : List MemPlace} (hv : Value.okWide Tryd.prog w r b0 25 v) (h : DataW.Trod enc Tryd.prog w base spare held 25 v d ps) :
    ∃ (n : Nat) (s : Su), SetAt w 0 w.heap.size n v s := by
  obtain ⟨fuel, hf⟩ := h
  obtain ⟨cs, rfl, _⟩ := okWide_struct Tryd.underlying25 hv
  obtain ⟨xs, m, rfl, _, hl, hxl, hf⟩ := DataW.trod_struct Tryd.underlying25 hf
  have hl5 : (Value.agg cs).cells.toList.length = 5 := hl.trans (by kernel_rfl)
  have hL : (Value.agg cs).cells.toList = cs.toList := rfl
  rw [hL] at hl5 hf
  obtain ⟨v0, t0, g0⟩ := one_of hl5 (show 0 < 5 by omega)
  obtain ⟨v1, t1, g1⟩ := one_of hl5 (show 1 < 5 by omega)
  obtain ⟨v2, t2, g2⟩ := one_of hl5 (show 2 < 5 by omega)
  obtain ⟨v3, t3, g3⟩ := one_of hl5 (show 3 < 5 by omega)
  obtain ⟨v4, t4, g4⟩ := one_of hl5 (show 4 < 5 by omega)
  have hx : xs.length = 5 := hxl
  obtain ⟨y0, _, z0⟩ := one_of hx (show 0 < 5 by omega)
  obtain ⟨y1, _, z1⟩ := one_of hx (show 1 < 5 by omega)
  obtain ⟨y2, _, z2⟩ := one_of hx (show 2 < 5 by omega)
  obtain ⟨y3, _, z3⟩ := one_of hx (show 3 < 5 by omega)
  obtain ⟨y4, _, z4⟩ := one_of hx (show 4 < 5 by omega)
  have h0 : DataW.trod enc Tryd.prog w base spare held m 3 ((cs.toList.drop 0).take (Tryd.prog.cellsOf 3)) = xs[0]? := hf 0 _ rfl
  have h1 : DataW.trod enc Tryd.prog w base spare held m 3 ((cs.toList.drop 1).take (Tryd.prog.cellsOf 3)) = xs[1]? := hf 1 _ rfl
  have h2 : DataW.trod enc Tryd.prog w base spare held m 3 ((cs.toList.drop 2).take (Tryd.prog.cellsOf 3)) = xs[2]? := hf 2 _ rfl
  have h3 : DataW.trod enc Tryd.prog w base spare held m 22 ((cs.toList.drop 3).take (Tryd.prog.cellsOf 22)) = xs[3]? := hf 3 _ rfl
  have h4 : DataW.trod enc Tryd.prog w base spare held m 23 ((cs.toList.drop 4).take (Tryd.prog.cellsOf 23)) = xs[4]? := hf 4 _ rfl
  simp only [cells_int6, cells_ints6, cells_thr6, t0, t1, t2, t3, t4, z0, z1, z2, z3, z4] at h0 h1 h2 h3 h4
  obtain ⟨a0, e0, _, w0⟩ := DataW.trod_int Tryd.underlying3 h0
  obtain ⟨a1, e1, _, w1⟩ := DataW.trod_int Tryd.underlying3 h1
  obtain ⟨a2, e2, _, w2⟩ := DataW.trod_int Tryd.underlying3 h2
  cases e0; cases e1; cases e2
  have b0 := wf_i64 w0
  have b1 := wf_i64 w1
  have b2 := wf_i64 w2
  have hI : ∀ (n : Nat) (cs : List Value) (x : DataW H × List MemPlace), n < m → DataW.trod enc Tryd.prog w base spare held n 2 cs = some x → ∃ s : Int, (fun cs s => cs = [Value.int .i64 s]) cs s := fun n cs x hn ht => by
    obtain ⟨a, e, _, _⟩ := DataW.trod_int Tryd.underlying2 ht
    exact ⟨a, e⟩
  have hS : ∀ (n : Nat) (cs : List Value) (x : DataW H × List MemPlace), n < m → DataW.trod enc Tryd.prog w base spare held n 39 cs = some x → ∃ s : St, (fun cs s => ∃ r : Raw, cs = r.cells ∧ SAt w 0 w.heap.size m r s) cs s := fun n cs x hn ht => by
    obtain ⟨r, s, hr, hs⟩ := open_stmt n n cs x (Nat.le_refl _) ht
    exact ⟨s, r, hr, hs.more _ _ (by omega)⟩
  have hX : ∀ (n : Nat) (cs : List Value) (x : DataW H × List MemPlace), n < m → DataW.trod enc Tryd.prog w base spare held n 34 cs = some x → ∃ l : List St, (fun cs l => ∃ B c, cs = [Value.slice B (List.length l) c] ∧ l.length ≤ 9223372036854775807 ∧ SKids w 0 w.heap.size m B l) cs l := fun n cs x hn ht => by
    obtain ⟨B, l, c, hc, hl, hk⟩ := open_slice Tryd.underlying34 stmt_cells6 _ (fun k cs x hk => hS k cs x (by omega)) ht
    refine ⟨l, B, c, hc, hl, fun j hj => ?_⟩
    obtain ⟨a, cs', rfl, hlc, hat, r, rfl, hs⟩ := hk j hj
    have ht : Ten w (a.add (j * 10)) r := ⟨hat 0 (by omega), hat 1 (by omega), hat 2 (by omega), hat 3 (by omega), hat 4 (by omega), hat 5 (by omega), hat 6 (by omega), hat 7 (by omega), hat 8 (by omega), hat 9 (by omega)⟩
    refine ⟨a, r, rfl, Nat.zero_le _, ?_, ht, hs⟩
    have := block_there ht.c0
    rwa [ad_block] at this
  have hT : ∀ (n : Nat) (cs : List Value) (x : DataW H × List MemPlace), n < m → DataW.trod enc Tryd.prog w base spare held n 33 cs = some x → ∃ l : List (List St), (fun cs l => ∃ B c, cs = [Value.slice B (List.length l) c] ∧ l.length ≤ 9223372036854775807 ∧ Txs w 0 w.heap.size m B l) cs l := fun n cs x hn ht => by
    obtain ⟨B, l, c, hc, hl, hk⟩ := open_slice Tryd.underlying33 cells_stmts6 _ (fun k cs x hk => hX k cs x (by omega)) ht
    refine ⟨l, B, c, hc, hl, fun j hj => ?_⟩
    obtain ⟨a, cs', rfl, hlc, hat, B', c', rfl, hl', hs⟩ := hk j hj
    have h0 : w.cell? (a.add (j * 1)) = some (.slice B' l[j].length c') := hat 0 (by omega)
    rw [Nat.mul_one] at h0
    refine ⟨a, B', c', rfl, Nat.zero_le _, ?_, h0, hl', hs⟩
    have := block_there h0
    rwa [ad_block] at this
  obtain ⟨T, thr, tc, hc4, tl, hkt⟩ := open_slice Tryd.underlying23 cells_txs6 _ hT h4
  obtain ⟨I, ini, ic, hc3, il, hki⟩ := open_slice Tryd.underlying22 cells_i64 _ hI h3
  cases hc4; cases hc3
  have hcs : cs = #[.int .i64 a0, .int .i64 a1, .int .i64 a2, .slice I ini.length ic, .slice T thr.length tc] := by
    apply Array.toList_inj.1
    generalize cs.toList = l at hl5 g0 g1 g2 g3 g4
    match l, hl5 with
    | [a, b, c, d, e], _ =>
      simp at g0 g1 g2 g3 g4
      rw [g0, g1, g2, g3, g4]
  refine ⟨m, ⟨a0, a1, a2, ini, thr⟩, I, ic, T, tc, by rw [hcs], ⟨⟨il, fun k hk => ?_⟩, fun j hj => ?_, tl, b0.1, by show a0 < _; omega, b1.1, by show a1 < _; omega, b2.1, by show a2 < _; omega⟩⟩
  · obtain ⟨a, cs', rfl, hlc, hat, rfl⟩ := hki k hk
    have h0 : w.cell? (a.add (k * 1)) = some (.int .i64 ini[k]) := hat 0 (by omega)
    rw [Nat.mul_one] at h0
    refine ⟨a, rfl, ?_, h0⟩
    have := block_there h0
    rwa [ad_block] at this
  · obtain ⟨a, cs', rfl, hlc, hat, B', c', rfl, hl', hs⟩ := hkt j hj
    have h0 : w.cell? (a.add (j * 1)) = some (.slice B' thr[j].length c') := hat 0 (by omega)
    rw [Nat.mul_one] at h0
    refine ⟨a, B', c', rfl, Nat.zero_le _, ?_, h0, hl', hs⟩
    have := block_there h0
    rwa [ad_block] at this
end
end Go.Proofs.YtnkdaehmdcpafaaDoor
