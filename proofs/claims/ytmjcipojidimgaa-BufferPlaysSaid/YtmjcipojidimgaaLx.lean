/-
  STEPS AND PAIRS OF LAYER 8's STATEMENTS: slices of them as they lie in memory, opened out of an argument. No condition.
-/
import Derived.Test.YtmjcipojidimgaaLw
import Derived.Test.YtmjcipojidimgaaLift
import Derived.Deep.Slices
import Derived.Deep.Fields
import Derived.Carry
import Derived.LoopTactic
namespace Go.Proofs.Ytmjcipojidimgaa
set_option maxRecDepth 100000
open Go.ChangeShapes Go.WideShapes Go.RowKit Go.Deep
set_option linter.unusedVariables false
structure St8 where
  k : Nat
  v : Int
  x : Int
instance : Inhabited St8 := ⟨⟨0, 0, 0⟩⟩
structure St8.Ok (s : St8) : Prop where
  k : s.k ≤ 255
  v : wfI s.v
  x : wfI s.x
/-- At p lies a step. -/
structure St8At (w : World) (p : Addr) (s : St8) : Prop where
  c0 : w.cell? p = some (.int .u8 s.k)
  c1 : w.cell? ⟨p.block, p.off + 1, none⟩ = some (.int .i64 s.v)
  c2 : w.cell? ⟨p.block, p.off + 2, none⟩ = some (.int .i64 s.x)
  ok : s.Ok
def nth8 (L : List St8) (i : Nat) : St8 := L.getD i default
/-- At A lie these steps, below block B. -/
def Steps8 (w : World) (B : Nat) (A : Option Addr) (L : List St8) : Prop := ∀ i, i < L.length → ∃ a, A = some a ∧ a.block < B ∧ St8At w (a.add (i * 3)) (nth8 L i)
theorem St8At.below {w w' : World} {B : Nat} {p : Addr} {s : St8} (h : St8At w p s) (hb : Below B w w') (hp : p.block < B) : St8At w' p s :=
  ⟨(hb.cell hp).trans h.c0, (hb.cell (p := ⟨p.block, _, none⟩) hp).trans h.c1, (hb.cell (p := ⟨p.block, _, none⟩) hp).trans h.c2, h.ok⟩
theorem Steps8.below {w w' : World} {B : Nat} {A : Option Addr} {L : List St8} (h : Steps8 w B A L) (hb : Below B w w') : Steps8 w' B A L := fun i hi => by
  obtain ⟨a, e, ha, hs⟩ := h i hi
  exact ⟨a, e, ha, hs.below hb (by rw [ad8_block]; exact ha)⟩
section
variable {H : Type} {enc : TypeId × Value → H} {w : World} {base : Nat} {spare : Nat → Bool} {held : Bool}
theorem wf8_u8 {n : Int} (h : (Lit.int .u8 n).wf = true) : 0 ≤ n ∧ n ≤ 255 := by simpa [Lit.wf, IntKind.min, IntKind.max, IntKind.signed, IntKind.bits] using h
theorem one_of8 {α : Type} {cs : List α} {j n : Nat} (hl : cs.length = n) (h : j < n) : ∃ v, (cs.drop j).take 1 = [v] ∧ cs[j]? = some v := by
  refine ⟨cs[j]'(by omega), ?_, List.getElem?_eq_getElem (by omega)⟩
  rw [List.drop_eq_getElem_cons (by omega)]
  rfl
theorem step_cells8 : Try.prog.cellsOf 29 = 3 := by kernel_rfl
theorem pair_cells8 : Try.prog.cellsOf 43 = 2 := by kernel_rfl
theorem cells_u8_8 : Try.prog.cellsOf 5 = 1 := by kernel_rfl
theorem cells_i64_8 : Try.prog.cellsOf 2 = 1 := by kernel_rfl
theorem cells_int_8 : Try.prog.cellsOf 3 = 1 := by kernel_rfl
theorem open_step8 {p : Addr} {n : Nat} {cs : List Value} {x : DataW H × List MemPlace} (hc : w.cells? base p 3 = some cs) (h : DataW.trod enc Try.prog w base spare held n 29 cs = some x) : ∃ st, St8At w p st := by
  obtain ⟨_, hl, hat⟩ := World.cells?_some hc
  obtain ⟨xs, m, _, _, _, hxl, hf⟩ := DataW.trod_struct Try.underlying29 h
  obtain ⟨v0, t0, g0⟩ := one_of8 hl (show 0 < 3 by omega)
  obtain ⟨v1, t1, g1⟩ := one_of8 hl (show 1 < 3 by omega)
  obtain ⟨v2, t2, g2⟩ := one_of8 hl (show 2 < 3 by omega)
  have hx : xs.length = 3 := hxl
  obtain ⟨y0, _, z0⟩ := one_of8 hx (show 0 < 3 by omega)
  obtain ⟨y1, _, z1⟩ := one_of8 hx (show 1 < 3 by omega)
  obtain ⟨y2, _, z2⟩ := one_of8 hx (show 2 < 3 by omega)
  have h0 : DataW.trod enc Try.prog w base spare held m 5 ((cs.drop 0).take (Try.prog.cellsOf 5)) = xs[0]? := hf 0 _ rfl
  have h1 : DataW.trod enc Try.prog w base spare held m 3 ((cs.drop 1).take (Try.prog.cellsOf 3)) = xs[1]? := hf 1 _ rfl
  have h2 : DataW.trod enc Try.prog w base spare held m 2 ((cs.drop 2).take (Try.prog.cellsOf 2)) = xs[2]? := hf 2 _ rfl
  simp only [cells_u8_8, cells_i64_8, cells_int_8, t0, t1, t2, z0, z1, z2] at h0 h1 h2
  obtain ⟨a0, e0, _, w0⟩ := DataW.trod_int Try.underlying5 h0
  obtain ⟨a1, e1, _, w1⟩ := DataW.trod_int Try.underlying3 h1
  obtain ⟨a2, e2, _, w2⟩ := DataW.trod_int Try.underlying2 h2
  cases e0; cases e1; cases e2
  have b0 := wf8_u8 w0
  obtain ⟨k0, rfl⟩ := Int.eq_ofNat_of_zero_le b0.1
  have q0 : k0 ≤ 255 := by omega
  exact ⟨⟨k0, a1, a2⟩, ⟨(hat 0 (by omega)).trans g0, (hat 1 (by omega)).trans g1, (hat 2 (by omega)).trans g2, ⟨q0, w1, w2⟩⟩⟩
theorem open_pair8 {p : Addr} {n : Nat} {cs : List Value} {x : DataW H × List MemPlace} (hc : w.cells? base p 2 = some cs) (h : DataW.trod enc Try.prog w base spare held n 43 cs = some x) : ∃ st : Pr, w.cell? p = some (.int .i64 st.1) ∧ w.cell? ⟨p.block, p.off + 1, none⟩ = some (.int .i64 st.2) ∧ wfI st.1 ∧ wfI st.2 := by
  obtain ⟨_, hl, hat⟩ := World.cells?_some hc
  obtain ⟨xs, m, _, _, _, hxl, hf⟩ := DataW.trod_struct Try.underlying43 h
  obtain ⟨v0, t0, g0⟩ := one_of8 hl (show 0 < 2 by omega)
  obtain ⟨v1, t1, g1⟩ := one_of8 hl (show 1 < 2 by omega)
  have hx : xs.length = 2 := hxl
  obtain ⟨y0, _, z0⟩ := one_of8 hx (show 0 < 2 by omega)
  obtain ⟨y1, _, z1⟩ := one_of8 hx (show 1 < 2 by omega)
  have h0 : DataW.trod enc Try.prog w base spare held m 3 ((cs.drop 0).take (Try.prog.cellsOf 3)) = xs[0]? := hf 0 _ rfl
  have h1 : DataW.trod enc Try.prog w base spare held m 2 ((cs.drop 1).take (Try.prog.cellsOf 2)) = xs[1]? := hf 1 _ rfl
  simp only [cells_i64_8, cells_int_8, t0, t1, z0, z1] at h0 h1
  obtain ⟨a0, e0, _, w0⟩ := DataW.trod_int Try.underlying3 h0
  obtain ⟨a1, e1, _, w1⟩ := DataW.trod_int Try.underlying2 h1
  cases e0; cases e1
  exact ⟨(a0, a1), (hat 0 (by omega)).trans g0, (hat 1 (by omega)).trans g1, w0, w1⟩
theorem cell_lt8 {a : Addr} {n : Nat} {v : Value} (h : w.cell? (a.add n) = some v) : a.block < w.heap.size := by
  unfold World.cell? at h
  rw [ad8_block] at h
  rcases Nat.lt_or_ge a.block w.heap.size with hh | hh
  · exact hh
  · rw [Array.getElem?_eq_none hh] at h; simp at h
/-- An argument of type []Step. -/
theorem open_steps8 {r : Reach} {b0 : Nat} {v : Value} {d : DataW H} {ps : List MemPlace} (hv : Value.okWide Try.prog w r b0 22 v) (h : DataW.Trod enc Try.prog w base spare held 22 v d ps) :
    ∃ A c L, v = .slice A (L : List St8).length c ∧ L.length ≤ 9223372036854775807 ∧ Steps8 w w.heap.size A L := by
  obtain ⟨fuel, hf⟩ := h
  rcases open_slice Try.underlying22 hf with ⟨hcs, _⟩ | ⟨a, len, cap, m, n, D, Pl, hcs, hb, hl, hm, hmm, hx, hi⟩
  · obtain ⟨A, n0, c0, rfl⟩ := okWide_slice Try.underlying22 hv
    simp [Value.cells] at hcs
    obtain ⟨rfl, rfl, rfl⟩ := hcs
    exact ⟨none, 0, [], rfl, by simp, fun i hi => absurd hi (by simp)⟩
  · obtain ⟨A, n0, c0, rfl⟩ := okWide_slice Try.underlying22 hv
    simp [Value.cells] at hcs
    obtain ⟨rfl, rfl, rfl⟩ := hcs
    have hlm : n0 ≤ m := by rw [hmm]; split <;> omega
    have hst : ∀ i, i < n0 → ∃ st, St8At w (a.add (i * 3)) st := fun i hi' => by
      obtain ⟨cs', hc, ht⟩ := hi i (by omega)
      rw [step_cells8] at hc
      exact open_step8 hc ht
    obtain ⟨F, hF⟩ := choose_lt hst
    have hlen : ((List.range n0).map F).length = n0 := by simp
    unfold maxLen at hm
    refine ⟨some a, c0, (List.range n0).map F, by rw [hlen], by rw [hlen]; omega, fun i hi' => ?_⟩
    rw [hlen] at hi'
    have hg : nth8 ((List.range n0).map F) i = F i := by
      rw [nth8, List.getD_eq_getElem?_getD, List.getElem?_map, List.getElem?_range hi']
      rfl
    rw [hg]
    exact ⟨a, rfl, cell_lt8 (hF i hi').c0, hF i hi'⟩
/-- An argument of type []api.Pair. -/
theorem open_pairs8 {r : Reach} {b0 : Nat} {v : Value} {d : DataW H} {ps : List MemPlace} (hv : Value.okWide Try.prog w r b0 35 v) (h : DataW.Trod enc Try.prog w base spare held 35 v d ps) :
    ∃ A c L, v = .slice A (L : List Pr).length c ∧ L.length ≤ 9223372036854775807 ∧ (PairsAt w w.heap.size A L ∧ ∀ e ∈ L, wfI e.1 ∧ wfI e.2) := by
  obtain ⟨fuel, hf⟩ := h
  rcases open_slice Try.underlying35 hf with ⟨hcs, _⟩ | ⟨a, len, cap, m, n, D, Pl, hcs, hb, hl, hm, hmm, hx, hi⟩
  · obtain ⟨A, n0, c0, rfl⟩ := okWide_slice Try.underlying35 hv
    simp [Value.cells] at hcs
    obtain ⟨rfl, rfl, rfl⟩ := hcs
    exact ⟨none, 0, [], rfl, by simp, fun i hi => absurd hi (by simp), by simp⟩
  · obtain ⟨A, n0, c0, rfl⟩ := okWide_slice Try.underlying35 hv
    simp [Value.cells] at hcs
    obtain ⟨rfl, rfl, rfl⟩ := hcs
    have hlm : n0 ≤ m := by rw [hmm]; split <;> omega
    have hst : ∀ i, i < n0 → ∃ st : Pr, w.cell? (a.add (i * 2)) = some (.int .i64 st.1) ∧ w.cell? ⟨(a.add (i * 2)).block, (a.add (i * 2)).off + 1, none⟩ = some (.int .i64 st.2) ∧ wfI st.1 ∧ wfI st.2 := fun i hi' => by
      obtain ⟨cs', hc, ht⟩ := hi i (by omega)
      rw [pair_cells8] at hc
      exact open_pair8 hc ht
    obtain ⟨F, hF⟩ := choose_lt hst
    have hlen : ((List.range n0).map F).length = n0 := by simp
    unfold maxLen at hm
    refine ⟨some a, c0, (List.range n0).map F, by rw [hlen], by rw [hlen]; omega, fun k hk => ?_, fun e he => ?_⟩
    · rw [hlen] at hk
      obtain ⟨h1, h2, _⟩ := hF k hk
      refine ⟨a, rfl, cell_lt8 h1, ?_⟩
      rw [List.getElem_map, List.getElem_range]
      exact ⟨h1, h2⟩
    · obtain ⟨i, hi', rfl⟩ := List.mem_map.1 he
      exact (hF i (by simpa using hi')).2.2
end
end Go.Proofs.Ytmjcipojidimgaa
