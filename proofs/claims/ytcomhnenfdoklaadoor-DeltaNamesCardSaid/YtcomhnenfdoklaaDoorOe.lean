/-
  EVENTS IN MEMORY, one behind the other; an argument of type api.Trace, opened. No condition.
-/
import Derived.Test.YtcomhnenfdoklaaDoorWt
import Derived.Test.YtcomhnenfdoklaaDoorOd
namespace Go.Proofs.YtcomhnenfdoklaaDoor
set_option maxRecDepth 100000
open Go.ChangeShapes Go.WideShapes Go.RowKit Go.Deep
set_option linter.unusedVariables false
instance : Inhabited Ev := ⟨ev0⟩
def nthE (L : List Ev) (i : Nat) : Ev := L.getD i ev0
theorem nthE_of {L : List Ev} {i : Nat} (h : i < L.length) : L[i]? = some (nthE L i) := by
  unfold nthE
  rw [List.getD_eq_getElem?_getD, List.getElem?_eq_getElem h]
  rfl
/-- At p lies an event. -/
structure EvAt (w : World) (p : Addr) (e : Ev) : Prop where
  c0 : w.cell? p = some (.int .u8 e.kd)
  c1 : w.cell? ⟨p.block, p.off + 1, none⟩ = some (.int .i64 e.th)
  c2 : w.cell? ⟨p.block, p.off + 2, none⟩ = some (.int .i64 e.tx)
  c3 : w.cell? ⟨p.block, p.off + 3, none⟩ = some (.int .i64 e.pl)
  c4 : w.cell? ⟨p.block, p.off + 4, none⟩ = some (.int .i64 e.v)
  c5 : w.cell? ⟨p.block, p.off + 5, none⟩ = some (.int .i64 e.x)
  c6 : w.cell? ⟨p.block, p.off + 6, none⟩ = some (.int .u8 e.why)
  ok : EvOk e
/-- At A lie these events, below block B. -/
def EvsAt (w : World) (B : Nat) (A : Option Addr) (L : List Ev) : Prop := ∀ i, i < L.length → ∃ a, A = some a ∧ a.block < B ∧ EvAt w (a.add (i * 7)) (nthE L i)
theorem add_blockO (a : Addr) (n : Nat) : (a.add n).block = a.block := by unfold Addr.add; split <;> rfl
theorem EvAt.below {w w' : World} {B : Nat} {p : Addr} {e : Ev} (h : EvAt w p e) (hb : Below B w w') (hp : p.block < B) : EvAt w' p e :=
  ⟨(hb.cell hp).trans h.c0, (hb.cell (p := ⟨p.block, _, none⟩) hp).trans h.c1, (hb.cell (p := ⟨p.block, _, none⟩) hp).trans h.c2, (hb.cell (p := ⟨p.block, _, none⟩) hp).trans h.c3, (hb.cell (p := ⟨p.block, _, none⟩) hp).trans h.c4, (hb.cell (p := ⟨p.block, _, none⟩) hp).trans h.c5, (hb.cell (p := ⟨p.block, _, none⟩) hp).trans h.c6, h.ok⟩
theorem EvsAt.below {w w' : World} {B B' : Nat} {A : Option Addr} {L : List Ev} (h : EvsAt w B A L) (hb : Below B' w w') (hB : B ≤ B') : EvsAt w' B A L := fun i hi => by
  obtain ⟨a, e, ha, hs⟩ := h i hi
  exact ⟨a, e, ha, hs.below hb (by rw [add_blockO]; omega)⟩
theorem EvsAt.mono {w : World} {B B' : Nat} {A : Option Addr} {L : List Ev} (h : EvsAt w B A L) (hB : B ≤ B') : EvsAt w B' A L := fun i hi => by
  obtain ⟨a, e, ha, hs⟩ := h i hi
  exact ⟨a, e, by omega, hs⟩
theorem EvsAt.take {w : World} {B : Nat} {A : Option Addr} {L : List Ev} (h : EvsAt w B A L) (n : Nat) : EvsAt w B A (L.take n) := fun i hi => by
  rw [List.length_take] at hi
  obtain ⟨a, e, ha, hs⟩ := h i (by omega)
  refine ⟨a, e, ha, ?_⟩
  have : nthE (L.take n) i = nthE L i := by
    unfold nthE
    rw [List.getD_eq_getElem?_getD, List.getElem?_take, if_pos (by omega), ← List.getD_eq_getElem?_getD]
  rw [this]
  exact hs
theorem EvsAt.ok {w : World} {B : Nat} {A : Option Addr} {L : List Ev} (h : EvsAt w B A L) {i : Nat} (hi : i < L.length) : EvOk (nthE L i) := by
  obtain ⟨a, _, _, hs⟩ := h i hi
  exact hs.ok
/-- The cells of events that lie in a row of their own. -/
def evsC (L : List Ev) : List Value := L.flatMap fun e => (evC e).toList
theorem evsC_len (L : List Ev) : (evsC L).length = L.length * 7 := by
  induction L with
  | nil => rfl
  | cons e r ih =>
    have : evsC (e :: r) = (evC e).toList ++ evsC r := rfl
    rw [this, List.length_append, ih]
    show 7 + _ = _
    simp
    omega
theorem evsC_at (L : List Ev) (i j : Nat) (hi : i < L.length) (hj : j < 7) : (evsC L)[i * 7 + j]? = (evC (nthE L i))[j]? := by
  induction L generalizing i with
  | nil => simp at hi
  | cons e r ih =>
    have h0 : evsC (e :: r) = (evC e).toList ++ evsC r := rfl
    have h7 : (evC e).toList.length = 7 := rfl
    rw [h0]
    cases i with
    | zero =>
      rw [List.getElem?_append_left (by omega)]
      simp [nthE]
    | succ i =>
      rw [List.getElem?_append_right (by omega), h7, show (i + 1) * 7 + j - 7 = i * 7 + j by omega, ih i (by simpa using hi)]
      rfl
theorem EvsAt.row {w : World} {g B : Nat} {L : List Ev} (h : w.heap[g]? = some (.cells (evsC L).toArray 41 (0, 0))) (hg : g < B) (hok : ∀ e ∈ L, EvOk e) : EvsAt w B (some ⟨g, 0, none⟩) L := fun i hi => by
  refine ⟨⟨g, 0, none⟩, rfl, hg, ?_⟩
  have hp : (⟨g, 0, none⟩ : Addr).add (i * 7) = ⟨g, i * 7, none⟩ := by
    by_cases h0 : i * 7 = 0
    · rw [h0]
      rfl
    · simp [Addr.add, h0]
  rw [hp]
  have hc : ∀ j, j < 7 → w.cell? ⟨g, i * 7 + j, none⟩ = (evC (nthE L i))[j]? := fun j hj => by
    rw [cell_of_row w g _ _ _ _ h, ← evsC_at L i j hi hj]
    simp
  exact ⟨hc 0 (by omega), hc 1 (by omega), hc 2 (by omega), hc 3 (by omega), hc 4 (by omega), hc 5 (by omega), hc 6 (by omega), hok _ (List.mem_of_getElem? (nthE_of hi))⟩
/-- A trace, as a value. -/
def trV (T V S : Int) (A : Option Addr) (n c : Nat) : Value := .agg #[.int .i64 T, .int .i64 V, .int .i64 S, .slice A n c]
section
variable {H : Type} {enc : TypeId × Value → H} {w : World} {base : Nat} {spare : Nat → Bool} {held : Bool}
end
end Go.Proofs.YtcomhnenfdoklaaDoor
