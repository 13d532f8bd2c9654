/-
  PACKAGE trace (layer 15): events, and the iterator that it hands back: which events it tells, and where the reader is then. Conditions: as they stand.
-/
import Derived.Test.YteigglhhnemngaaGreatDoorTrd
import Derived.Test.YteigglhhnemngaaGreatDoorTrc
namespace Go.Proofs.YteigglhhnemngaaGreatDoor
set_option maxRecDepth 100000
open Go.RowKit Go.Deep Go.Shelf
set_option linter.unusedVariables false
set_option linter.unusedSimpArgs false
attribute [local go_sem] Oper.semAt_some
structure KR (n₀ : Nat) (W W' : World) : Prop where
  low : Below n₀ W W'
  row : ∀ (i : Nat) (cs : Array Value) (f : Nat × Nat) (t : TypeId), t = 102 ∨ t = 161 ∨ t = 63 → W.heap[i]? = some (.cells cs t f) → W'.heap[i]? = some (.cells cs t f)
theorem KR.refl (n₀ : Nat) (W : World) : KR n₀ W W := ⟨Below.refl _ _, fun _ _ _ _ _ h => h⟩
theorem KR.trans {n₀ : Nat} {A B C : World} (h : KR n₀ A B) (k : KR n₀ B C) : KR n₀ A C := ⟨h.low.trans k.low, fun i cs f t ht hA => k.row i cs f t ht (h.row i cs f t ht hA)⟩
theorem KR.of_below {n₀ : Nat} {A B : World} (h : Below A.heap.size A B) (hn : n₀ ≤ A.heap.size) : KR n₀ A B := ⟨h.mono hn, fun i cs f t _ hA => (h.block i (Array.getElem?_eq_some_iff.1 hA).1).trans hA⟩
theorem KR.putObj {n₀ : Nat} {W : World} {l : Nat} (o o' : Go.Obj) (hn : n₀ ≤ l) (h : W.heap[l]? = some o) (hc : o.isCells = false) : KR n₀ W (W.putObj l o') :=
  ⟨(Below.refl n₀ W).grown (grownBy_putObj' W l o') (by have := (Array.getElem?_eq_some_iff.1 h).1; omega) (fun k e => by cases e; omega), fun k cs f t _ hA => by
    by_cases hkl : k = l
    · subst hkl
      rw [h] at hA
      cases hA
      cases hc
    · exact (World.putObj_heap_other hkl).trans hA⟩
structure KcT (gr n₀ : Nat) (A C : World) : Prop where
  os : C.os = A.os
  tape : C.tape = A.tape
  output : C.output = A.output
  size : A.heap.size ≤ C.heap.size
  block : ∀ (i : Nat) (o : Go.Obj), A.heap[i]? = some o → (o.isCells = false ∨ (i ≠ gr ∧ (i < n₀ ∨ ∀ cs t f, o = .cells cs t f → t ≠ 102 ∧ t ≠ 161))) → C.heap[i]? = some o
theorem KcT.refl (gr n₀ : Nat) (A : World) : KcT gr n₀ A A := ⟨rfl, rfl, rfl, Nat.le_refl _, fun _ _ h _ => h⟩
theorem KcT.trans {gr n₀ : Nat} {A B C : World} (h : KcT gr n₀ A B) (k : KcT gr n₀ B C) : KcT gr n₀ A C :=
  ⟨k.os.trans h.os, k.tape.trans h.tape, k.output.trans h.output, Nat.le_trans h.size k.size, fun i o hA hc => k.block i o (h.block i o hA hc) hc⟩
theorem KcT.of_below {gr n₀ : Nat} {A C : World} (h : Below A.heap.size A C) : KcT gr n₀ A C :=
  ⟨h.os, h.tape, h.output, h.size, fun i o hA _ => (h.block i (Array.getElem?_eq_some_iff.1 hA).1).trans hA⟩
theorem KcT.of_kp {gr gc n₀ : Nat} {A C : World} {S : ByteArray} {a : Nat} {wr : Int} {q : Cd} (hr : Rd A gr S a wr) (hc : CodAt A gc q) (k : Kp gr (some gc) A C) (hn : n₀ ≤ gc) : KcT gr n₀ A C :=
  ⟨k.os, k.tape, k.output, k.size, fun i o hA hh => (k.block i (Array.getElem?_eq_some_iff.1 hA).1 (fun x => by
    subst x
    rcases hh with hh | hh
    · have h9 := hr.1
      unfold Obj at h9
      rw [hA] at h9
      cases h9
      cases hh
    · exact hh.1 rfl) (fun x => by
    have x := Option.some.inj x
    subst x
    unfold CodAt at hc
    rw [hA] at hc
    cases hc
    rcases hh with hh | hh
    · cases hh
    · rcases hh.2 with h5 | h5
      · omega
      · exact (h5 _ _ _ rfl).1 rfl)).trans hA⟩
theorem KcT.of_rd {gr n₀ : Nat} {A C : World} {S : ByteArray} {a : Nat} {wr : Int} (hr : Rd A gr S a wr) (k : Kp gr none A C) : KcT gr n₀ A C :=
  ⟨k.os, k.tape, k.output, k.size, fun i o hA hh => (k.block i (Array.getElem?_eq_some_iff.1 hA).1 (fun x => by
    subst x
    rcases hh with hh | hh
    · have h9 := hr.1
      unfold Obj at h9
      rw [hA] at h9
      cases h9
      cases hh
    · exact hh.1 rfl) (by simp)).trans hA⟩
theorem KcT.of_upd {gr gk n₀ : Nat} {A C : World} {T V S : Int} {p p0 : PS} (hc : ChkAt A gk T V S p0) (k : UpdC A gk T V S p C) (hn : n₀ ≤ gk) : KcT gr n₀ A C :=
  ⟨(k.low gk (Nat.le_refl _)).os, (k.low gk (Nat.le_refl _)).tape, (k.low gk (Nat.le_refl _)).output, k.size, fun i o hA hh => (k.far i (Array.getElem?_eq_some_iff.1 hA).1 (fun x => by
    subst x
    unfold ChkAt at hc
    rw [hA] at hc
    cases hc
    rcases hh with hh | hh
    · cases hh
    · rcases hh.2 with h5 | h5
      · omega
      · exact (h5 _ _ _ rfl).2 rfl)).trans hA⟩
theorem kc_cells (gr n₀ : Nat) : ∀ (A C : World) (i : Nat) (o : _root_.Go.Obj), KcT gr n₀ A C → A.heap[i]? = some o → o.isCells = false → C.heap[i]? = some o := fun A C i o k h hc => k.block i o h (.inl hc)
def encE (e : Ev) : Array Value := #[evV e]
theorem evs_call (gr : Nat) (T V Z n : Int) (w : World) : Calls Tryz.prog 59 #[.pointer (some ⟨gr, 0, none⟩), trV T V Z none 0 0, .int .i64 n] w fun e w' => e = .returned (.func (.func 103) #[] #[.pointer (some ⟨w.heap.size + 1, 0, none⟩), .pointer (some ⟨w.heap.size + 1 + 1, 0, none⟩), .pointer (some ⟨w.heap.size, 0, none⟩)]) ∧ w' = ((w.alloc (.cells #[.pointer (some ⟨gr, 0, none⟩)] 63)).alloc (.cells #[.int .i64 T, .int .i64 V, .int .i64 Z, .slice none 0 0] 25)).alloc (.cells #[.int .i64 n] 3) := by
  unfold trV
  go_enter Tryz.func59, Tryz.ntmps59
  go_wp2_with fail
  go_ret
  exact ⟨rfl, rfl⟩
theorem ek_kp {w w' : World} {gr gc : Nat} {S : ByteArray} {a : Nat} {wr : Int} {q : Cd} (h : Ek w) (hr : Rd w gr S a wr) (hc : CodAt w gc q) (k : Kp gr (some gc) w w') : Ek w' := by
  have h1 : 1 ≠ gr := by
    intro hg
    have h2 := h.nm 1 (by omega)
    have h5 := cell_of_row w gr 1 _ _ _ hr.1
    rw [← hg] at h5
    rw [h5] at h2
    simp at h2
  have h3 : 1 ≠ gc := by
    intro hg
    have h2 := h.nm 0 (by omega)
    have h5 := hc.cT
    rw [← hg] at h5
    rw [h5] at h2
    cases h2
  refine ⟨fun j hj => ?_⟩
  have h4 := h.nm j hj
  rw [← h4]
  unfold World.cell?
  rw [k.block _ (there_blockW h4) h1 (fun x => h3 (Option.some.inj x))]
theorem ek_rd {w w' : World} {gr : Nat} {S : ByteArray} {a : Nat} {wr : Int} (h : Ek w) (hr : Rd w gr S a wr) (k : Kp gr none w w') : Ek w' := by
  have h1 : 1 ≠ gr := by
    intro hg
    have h2 := h.nm 1 (by omega)
    have h5 := cell_of_row w gr 1 _ _ _ hr.1
    rw [← hg] at h5
    rw [h5] at h2
    simp at h2
  refine ⟨fun j hj => ?_⟩
  have h4 := h.nm j hj
  rw [← h4]
  unfold World.cell?
  rw [k.block _ (there_blockW h4) h1 (by simp)]
theorem atI_app {T V Z : Int} {L : List Ev} {p : PS} (h : AtI T V Z L L.length p) (e : Ev) : AtI T V Z (L ++ [e]) L.length p := by
  have h1 : (L ++ [e]).take L.length = L.take L.length := by rw [List.take_left, List.take_length]
  exact ⟨by rw [h1]; exact h.rel, by rw [h1]; exact h.fine, h.ok, h.came⟩
theorem behind_app (Z : Int) (L : List Ev) (e : Ev) : behind Z (L ++ [e]) = stepS Z (behind Z L) e := by
  unfold behind
  rw [List.foldl_append]
  rfl
theorem atI_more {T V Z : Int} {L : List Ev} {p : PS} {e : Ev} (h : AtI T V Z L L.length p) (hl : L.length < 1048576) :
    (nxE (nxO T V Z p e) = 0 ∧ mayS T V Z (behind Z L) e = true ∧ AtI T V Z (L ++ [e]) (L ++ [e]).length (nxP p (nxO T V Z p e))) ∨ (nxE (nxO T V Z p e) = 4 ∧ mayS T V Z (behind Z L) e = false) := by
  have ht : (L ++ [e]).take L.length = L := by rw [List.take_left]
  have hh := atI_next (atI_app h e) (e := e) (by simp) hl
  rw [ht] at hh
  rcases hh with ⟨h1, h2⟩ | h2
  · left
    have h3 : mayS T V Z (behind Z L) e = true := by
      have h4 := h2.fine L.length e (by rw [List.getElem?_take, if_pos (by omega)]; simp)
      rwa [List.take_take, Nat.min_eq_left (by omega), ht] at h4
    exact ⟨h1, h3, by rw [List.length_append]; exact h2⟩
  · exact .inr h2
theorem evsR_go {S : ByteArray} {T V Z : Int} {n : Nat} {q : Cd} {h : Sh} {a : Nat} {e : Ev} {a1 : Nat} (hx : rdX q S a 0 = (e, (a1, 0))) (hm : mayS T V Z h e = true) : evsR S T V Z (n + 1) q h (a, 0) = (e :: (evsR S T V Z n (knowQ q e) (stepS Z h e) (a1, 0)).1, (evsR S T V Z n (knowQ q e) (stepS Z h e) (a1, 0)).2) := by
  show (if (rdX q S a 0).2.2 = 0 then _ else _) = _
  rw [hx, if_pos rfl, if_pos hm]
theorem evsR_not {S : ByteArray} {T V Z : Int} {n : Nat} {q : Cd} {h : Sh} {a : Nat} {e : Ev} {a1 : Nat} (hx : rdX q S a 0 = (e, (a1, 0))) (hm : mayS T V Z h e = false) : evsR S T V Z (n + 1) q h (a, 0) = ([], (a, 4)) := by
  show (if (rdX q S a 0).2.2 = 0 then _ else _) = _
  rw [hx, if_pos rfl, if_neg (by rw [hm]; decide)]
theorem evsR_bad {S : ByteArray} {T V Z : Int} {n : Nat} {q : Cd} {h : Sh} {a : Nat} {e : Ev} {a1 : Nat} {wr : Int} (hx : rdX q S a 0 = (e, (a1, wr))) (hw : wr ≠ 0) : evsR S T V Z (n + 1) q h (a, 0) = ([], (a1, wr)) := by
  show (if (rdX q S a 0).2.2 = 0 then _ else _) = _
  rw [hx, if_neg hw]
structure ItI (n₀ gr gc gk b3 : Nat) (S : ByteArray) (T V Z : Int) (R : List Ev × (Nat × Int)) (many : Nat) (L : List Ev) (p : PS) (a : Nat) (w : World) : Prop where
  ek : Ek w
  hg : 1 < n₀
  cod : CodAt w gc (knM (newQ T V Z) L)
  chk : ChkAt w gk T V Z p
  rd : Rd w gr S a 0
  grl : gr < n₀
  box : w.heap[b3]? = some (.cells #[.pointer (some ⟨gr, 0, none⟩)] 63 (0, 0))
  at' : AtI T V Z L L.length p
  ok : CdOk (knM (newQ T V Z) L)
  le : L.length ≤ a ∧ L.length ≤ many
  rest : R = (L ++ (evsR S T V Z (many - L.length) (knM (newQ T V Z) L) (behind Z L) (a, 0)).1, (evsR S T V Z (many - L.length) (knM (newQ T V Z) L) (behind Z L) (a, 0)).2)
  nn : n₀ ≤ w.heap.size
  ngc : n₀ ≤ gc
  ngk : n₀ ≤ gk
section
variable {n₀ gr gc gk b3 : Nat} {S : ByteArray} {T V Z : Int} {R : List Ev × (Nat × Int)} {many : Nat} {L : List Ev} {p : PS} {a : Nat} {w w' : World}
theorem ItI.below (h : ItI n₀ gr gc gk b3 S T V Z R many L p a w) (b : Below w.heap.size w w') : ItI n₀ gr gc gk b3 S T V Z R many L p a w' :=
  ⟨h.ek.below b, h.hg, h.cod.below b, h.chk.below b h.chk.lt, rd_more h.rd b, h.grl, row_stays h.box b, h.at', h.ok, h.le, h.rest, Nat.le_trans h.nn b.size, h.ngc, h.ngk⟩
theorem ItI.round (h : ItI n₀ gr gc gk b3 S T V Z R many L p a w) (k : KR n₀ w w') : ItI n₀ gr gc gk b3 S T V Z R many L p a w' :=
  ⟨⟨fun j hj => (k.low.cell (p := ⟨1, j, none⟩) h.hg).trans (h.ek.nm j hj)⟩, h.hg, k.row _ _ _ _ (.inl rfl) h.cod, k.row _ _ _ _ (.inr (.inl rfl)) h.chk, ⟨(k.low.block gr h.grl).trans h.rd.1, h.rd.2⟩, h.grl, k.row _ _ _ _ (.inr (.inr rfl)) h.box, h.at', h.ok, h.le, h.rest, Nat.le_trans h.nn k.low.size, h.ngc, h.ngk⟩
end
end Go.Proofs.YteigglhhnemngaaGreatDoor
