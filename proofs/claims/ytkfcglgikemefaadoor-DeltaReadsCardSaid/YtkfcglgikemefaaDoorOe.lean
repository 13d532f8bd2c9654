/-
  EVENTS IN MEMORY, one behind the other; an argument of type api.Trace, opened. No condition.
-/
import Derived.Test.YtkfcglgikemefaaDoorWt
import Derived.Test.YtkfcglgikemefaaDoorOd
namespace Go.Proofs.YtkfcglgikemefaaDoor
set_option maxRecDepth 100000
open Go.ChangeShapes Go.WideShapes Go.RowKit Go.Deep
set_option linter.unusedVariables false
instance : Inhabited Ev := ⟨ev0⟩
def nthE (L : List Ev) (i : Nat) : Ev := L.getD i ev0
theorem nthE_of {L : List Ev} {i : Nat} (h : i < L.length) : L[i]? = some (nthE L i) := by
  unfold nthE
  rw [List.getD_eq_getElem?_getD, List.getElem?_eq_getElem h]
  rfl
/-- At p lies an event. -/
structure EvAt (w : World) (p : Addr) (e : Ev) : Prop where
  c0 : w.cell? p = some (.int .u8 e.kd)
  c1 : w.cell? ⟨p.block, p.off + 1, none⟩ = some (.int .i64 e.th)
  c2 : w.cell? ⟨p.block, p.off + 2, none⟩ = some (.int .i64 e.tx)
  c3 : w.cell? ⟨p.block, p.off + 3, none⟩ = some (.int .i64 e.pl)
  c4 : w.cell? ⟨p.block, p.off + 4, none⟩ = some (.int .i64 e.v)
  c5 : w.cell? ⟨p.block, p.off + 5, none⟩ = some (.int .i64 e.x)
  c6 : w.cell? ⟨p.block, p.off + 6, none⟩ = some (.int .u8 e.why)
  ok : EvOk e
/-- At A lie these events, below block B. -/
def EvsAt (w : World) (B : Nat) (A : Option Addr) (L : List Ev) : Prop := ∀ i, i < L.length → ∃ a, A = some a ∧ a.block < B ∧ EvAt w (a.add (i * 7)) (nthE L i)
theorem add_blockO (a : Addr) (n : Nat) : (a.add n).block = a.block := by unfold Addr.add; split <;> rfl
theorem EvAt.below {w w' : World} {B : Nat} {p : Addr} {e : Ev} (h : EvAt w p e) (hb : Below B w w') (hp : p.block < B) : EvAt w' p e :=
  ⟨(hb.cell hp).trans h.c0, (hb.cell (p := ⟨p.block, _, none⟩) hp).trans h.c1, (hb.cell (p := ⟨p.block, _, none⟩) hp).trans h.c2, (hb.cell (p := ⟨p.block, _, none⟩) hp).trans h.c3, (hb.cell (p := ⟨p.block, _, none⟩) hp).trans h.c4, (hb.cell (p := ⟨p.block, _, none⟩) hp).trans h.c5, (hb.cell (p := ⟨p.block, _, none⟩) hp).trans h.c6, h.ok⟩
theorem EvsAt.below {w w' : World} {B B' : Nat} {A : Option Addr} {L : List Ev} (h : EvsAt w B A L) (hb : Below B' w w') (hB : B ≤ B') : EvsAt w' B A L := fun i hi => by
  obtain ⟨a, e, ha, hs⟩ := h i hi
  exact ⟨a, e, ha, hs.below hb (by rw [add_blockO]; omega)⟩
theorem EvsAt.mono {w : World} {B B' : Nat} {A : Option Addr} {L : List Ev} (h : EvsAt w B A L) (hB : B ≤ B') : EvsAt w B' A L := fun i hi => by
  obtain ⟨a, e, ha, hs⟩ := h i hi
  exact ⟨a, e, by omega, hs⟩
theorem EvsAt.take {w : World} {B : Nat} {A : Option Addr} {L : List Ev} (h : EvsAt w B A L) (n : Nat) : EvsAt w B A (L.take n) := fun i hi => by
  rw [List.length_take] at hi
  obtain ⟨a, e, ha, hs⟩ := h i (by omega)
  refine ⟨a, e, ha, ?_⟩
  have : nthE (L.take n) i = nthE L i := by
    unfold nthE
    rw [List.getD_eq_getElem?_getD, List.getElem?_take, if_pos (by omega), ← List.getD_eq_getElem?_getD]
  rw [this]
  exact hs
theorem EvsAt.ok {w : World} {B : Nat} {A : Option Addr} {L : List Ev} (h : EvsAt w B A L) {i : Nat} (hi : i < L.length) : EvOk (nthE L i) := by
  obtain ⟨a, _, _, hs⟩ := h i hi
  exact hs.ok
/-- The cells of events that lie in a row of their own. -/
def evsC (L : List Ev) : List Value := L.flatMap fun e => (evC e).toList
theorem evsC_len (L : List Ev) : (evsC L).length = L.length * 7 := by
  induction L with
  | nil => rfl
  | cons e r ih =>
    have : evsC (e :: r) = (evC e).toList ++ evsC r := rfl
    rw [this, List.length_append, ih]
    show 7 + _ = _
    simp
    omega
theorem evsC_at (L : List Ev) (i j : Nat) (hi : i < L.length) (hj : j < 7) : (evsC L)[i * 7 + j]? = (evC (nthE L i))[j]? := by
  induction L generalizing i with
  | nil => simp at hi
  | cons e r ih =>
    have h0 : evsC (e :: r) = (evC e).toList ++ evsC r := rfl
    have h7 : (evC e).toList.length = 7 := rfl
    rw [h0]
    cases i with
    | zero =>
      rw [List.getElem?_append_left (by omega)]
      simp [nthE]
    | succ i =>
      rw [List.getElem?_append_right (by omega), h7, show (i + 1) * 7 + j - 7 = i * 7 + j by omega, ih i (by simpa using hi)]
      rfl
theorem EvsAt.row {w : World} {g B : Nat} {L : List Ev} (h : w.heap[g]? = some (.cells (evsC L).toArray 46 (0, 0))) (hg : g < B) (hok : ∀ e ∈ L, EvOk e) : EvsAt w B (some ⟨g, 0, none⟩) L := fun i hi => by
  refine ⟨⟨g, 0, none⟩, rfl, hg, ?_⟩
  have hp : (⟨g, 0, none⟩ : Addr).add (i * 7) = ⟨g, i * 7, none⟩ := by
    by_cases h0 : i * 7 = 0
    · rw [h0]
      rfl
    · simp [Addr.add, h0]
  rw [hp]
  have hc : ∀ j, j < 7 → w.cell? ⟨g, i * 7 + j, none⟩ = (evC (nthE L i))[j]? := fun j hj => by
    rw [cell_of_row w g _ _ _ _ h, ← evsC_at L i j hi hj]
    simp
  exact ⟨hc 0 (by omega), hc 1 (by omega), hc 2 (by omega), hc 3 (by omega), hc 4 (by omega), hc 5 (by omega), hc 6 (by omega), hok _ (List.mem_of_getElem? (nthE_of hi))⟩
/-- A trace, as a value. -/
def trV (T V S : Int) (A : Option Addr) (n c : Nat) : Value := .agg #[.int .i64 T, .int .i64 V, .int .i64 S, .slice A n c]
section
variable {H : Type} {enc : TypeId × Value → H} {w : World} {base : Nat} {spare : Nat → Bool} {held : Bool}
/-- An argument of type api.Trace. -/
theorem open_trace {r : Reach} {b0 : Nat} {v : Value} {d : DataW H} {ps : List MemPlace} (hv : Value.okWide Tryd.prog w r b0 24 v) (h : DataW.Trod enc Tryd.prog w base spare held 24 v d ps) :
    ∃ (T V S : Int) (A : Option Addr) (L : List Ev) (c : Nat), v = trV T V S A L.length c ∧ (-9223372036854775808 ≤ T ∧ T ≤ 9223372036854775807) ∧ (-9223372036854775808 ≤ V ∧ V ≤ 9223372036854775807) ∧ (-9223372036854775808 ≤ S ∧ S ≤ 9223372036854775807) ∧ L.length ≤ 9223372036854775807 ∧ EvsAt w w.heap.size A L ∧ L.length ≤ c ∧ (A = none → c = 0) := by
  obtain ⟨fuel, hf⟩ := h
  obtain ⟨cs, rfl, _⟩ := okWide_struct Tryd.underlying24 hv
  obtain ⟨xs, m, rfl, _, hl, hxl, hf⟩ := DataW.trod_struct Tryd.underlying24 hf
  have hl4 : (Value.agg cs).cells.toList.length = 4 := hl.trans (by kernel_rfl)
  have hL : (Value.agg cs).cells.toList = cs.toList := rfl
  rw [hL] at hl4 hf
  obtain ⟨v0, t0, g0⟩ := one_ofW hl4 (show 0 < 4 by omega)
  obtain ⟨v1, t1, g1⟩ := one_ofW hl4 (show 1 < 4 by omega)
  obtain ⟨v2, t2, g2⟩ := one_ofW hl4 (show 2 < 4 by omega)
  obtain ⟨v3, t3, g3⟩ := one_ofW hl4 (show 3 < 4 by omega)
  have hx : xs.length = 4 := hxl
  obtain ⟨y0, _, z0⟩ := one_ofW hx (show 0 < 4 by omega)
  obtain ⟨y1, _, z1⟩ := one_ofW hx (show 1 < 4 by omega)
  obtain ⟨y2, _, z2⟩ := one_ofW hx (show 2 < 4 by omega)
  obtain ⟨y3, _, z3⟩ := one_ofW hx (show 3 < 4 by omega)
  have cells_evs : Tryd.prog.cellsOf 22 = 1 := by kernel_rfl
  have h0 : DataW.trod enc Tryd.prog w base spare held m 3 ((cs.toList.drop 0).take (Tryd.prog.cellsOf 3)) = xs[0]? := hf 0 _ rfl
  have h1 : DataW.trod enc Tryd.prog w base spare held m 3 ((cs.toList.drop 1).take (Tryd.prog.cellsOf 3)) = xs[1]? := hf 1 _ rfl
  have h2 : DataW.trod enc Tryd.prog w base spare held m 3 ((cs.toList.drop 2).take (Tryd.prog.cellsOf 3)) = xs[2]? := hf 2 _ rfl
  have h3 : DataW.trod enc Tryd.prog w base spare held m 22 ((cs.toList.drop 3).take (Tryd.prog.cellsOf 22)) = xs[3]? := hf 3 _ rfl
  simp only [cells_intW, cells_evs, t0, t1, t2, t3, z0, z1, z2, z3] at h0 h1 h2 h3
  obtain ⟨a0, e0, _, w0⟩ := DataW.trod_int Tryd.underlying3 h0
  obtain ⟨a1, e1, _, w1⟩ := DataW.trod_int Tryd.underlying3 h1
  obtain ⟨a2, e2, _, w2⟩ := DataW.trod_int Tryd.underlying3 h2
  cases e0; cases e1; cases e2
  have b0 := wf_i64W w0
  have b1 := wf_i64W w1
  have b2 := wf_i64W w2
  have hcs : ∀ v3', cs.toList[3]? = some v3' → cs = #[.int .i64 a0, .int .i64 a1, .int .i64 a2, v3'] := fun v3' hv3 => by
    apply Array.toList_inj.1
    apply List.ext_getElem?
    intro j
    match j with
    | 0 => exact g0
    | 1 => exact g1
    | 2 => exact g2
    | 3 => exact hv3
    | j + 4 => rw [List.getElem?_eq_none (by omega), List.getElem?_eq_none (by simp)]
  rcases DataW.trod_slice Tryd.underlying22 h3 with ⟨hn, _⟩ | ⟨a, len, cap, elems, rest, n, hm, hs, hyy, hb, hle, hmx, hlen, hel2, hsp, hns⟩
  · cases hn
    exact ⟨a0, a1, a2, none, [], 0, congrArg Value.agg (hcs _ g3), b0, b1, b2, by simp, fun k hk => absurd hk (by simp), by simp, fun _ => rfl⟩
  · cases hs
    subst hm
    have hst : ∀ i, i < len → ∃ e : Ev, EvAt w (a.add (i * 7)) e := fun i hi => by
      have hh := hel2 i hi
      rw [List.getElem?_eq_getElem (by omega), Option.bind_eq_some_iff] at hh
      obtain ⟨cs', hc', ht⟩ := hh
      rw [ev_cellsW] at hc'
      obtain ⟨_, hl7, hat⟩ := World.cells?_some hc'
      obtain ⟨e, ok, he⟩ := open_cellsW hl7 ht
      subst he
      exact ⟨e, hat 0 (by omega), hat 1 (by omega), hat 2 (by omega), hat 3 (by omega), hat 4 (by omega), hat 5 (by omega), hat 6 (by omega), ok⟩
    obtain ⟨F, hF⟩ := choose_lt hst
    have hl2 : ((List.range len).map F).length = len := by simp
    unfold maxLen at hmx
    refine ⟨a0, a1, a2, some a, (List.range len).map F, cap, by rw [hl2]; exact congrArg Value.agg (hcs _ g3), b0, b1, b2, by rw [hl2]; omega, fun i hi => ?_, by rw [hl2]; exact hle, fun h => by cases h⟩
    rw [hl2] at hi
    have hg : nthE ((List.range len).map F) i = F i := by
      rw [nthE, List.getD_eq_getElem?_getD, List.getElem?_map, List.getElem?_range hi]
      rfl
    rw [hg]
    have hp := hF i hi
    have hlt := there_blockW hp.c0
    exact ⟨a, rfl, by rwa [add_blockO] at hlt, hp⟩
end
end Go.Proofs.YtkfcglgikemefaaDoor
