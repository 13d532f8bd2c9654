/-
  WORDS FOR SetupTells (P6.1): a copy whose parts are written over: its rows stay rows, and all below stays as it was. No condition.
-/
import Derived.Test.YtnkdaehmdcpafaaDoorUw
namespace Go.Proofs.YtnkdaehmdcpafaaDoor
open Go.RowKit
set_option linter.unusedVariables false
/-- A transaction that may be written. -/
def gX (w : World) (lo : Nat) (u : Value) : Prop := ∃ C n c, u = .slice C n c ∧ n ≤ 1000 ∧ RowX w (fun b => lo ≤ b) C n
/-- A thread that may be written. -/
def gT (w : World) (lo : Nat) (u : Value) : Prop := ∃ B n c, u = .slice B n c ∧ n ≤ 1000 ∧ (n = 0 ∨ ∃ g xs, B = some ⟨g, 0, none⟩ ∧ lo ≤ g ∧ w.heap[g]? = some (.cells xs 34 (0, 0)) ∧ n ≤ xs.size ∧ ∀ j, j < n → ∃ v, xs[j]? = some v ∧ gX w lo v)
/-- The threads: their row is never written. -/
def gA (w : World) (lo : Nat) (T : Option Addr) (M : Nat) (F : Nat → Value) : Prop := ∀ k, k < M → ∃ g xs, T = some ⟨g, 0, none⟩ ∧ lo ≤ g ∧ w.heap[g]? = some (.cells xs 33 (0, 0)) ∧ xs[k]? = some (F k) ∧ gT w lo (F k)
theorem ty_ne {w : World} {g g' : Nat} {xs ys : Array Value} {t t' : TypeId} (h : w.heap[g]? = some (.cells xs t (0, 0))) (h' : w.heap[g']? = some (.cells ys t' (0, 0))) (ht : t ≠ t') : g ≠ g' := by
  rintro rfl
  rw [h] at h'
  injection h' with e
  injection e with e1 e2
  exact ht e2
/-- A store into a row of another type. -/
theorem gX.other {w : World} {lo g i : Nat} {u v : Value} {xs : Array Value} {t : TypeId} (h : gX w lo u) (hr : w.heap[g]? = some (.cells xs t (0, 0))) (ht : t ≠ 39) : gX (w.setCell ⟨g, i, none⟩ v) lo u := by
  obtain ⟨C, n, c, rfl, hn, h1⟩ := h
  refine ⟨C, n, c, rfl, hn, ?_⟩
  rcases h1 with h0 | ⟨g', ys, h2, h3, h4, h5⟩
  · exact Or.inl h0
  · exact Or.inr ⟨g', ys, h2, h3, (heap_set_other w g i v g' (ty_ne hr h4 ht).symm).trans h4, h5⟩
/-- A store into a row of statements. -/
theorem gX.stmt {w : World} {lo g i : Nat} {u v : Value} {xs : Array Value} (h : gX w lo u) (hr : w.heap[g]? = some (.cells xs 39 (0, 0))) : gX (w.setCell ⟨g, i, none⟩ v) lo u := by
  obtain ⟨C, n, c, rfl, hn, h1⟩ := h
  refine ⟨C, n, c, rfl, hn, ?_⟩
  rcases h1 with h0 | ⟨g', ys, h2, h3, h4, h5⟩
  · exact Or.inl h0
  · by_cases he : g' = g
    · subst he
      exact Or.inr ⟨g', _, h2, h3, heap_set_same w g' i v _ _ h4, by simpa using h5⟩
    · exact Or.inr ⟨g', ys, h2, h3, (heap_set_other w g i v g' he).trans h4, h5⟩
theorem gT.other {w : World} {lo g i : Nat} {u v : Value} {xs : Array Value} {t : TypeId} (h : gT w lo u) (hr : w.heap[g]? = some (.cells xs t (0, 0))) (ht : t ≠ 34) (hx : ∀ u, gX w lo u → gX (w.setCell ⟨g, i, none⟩ v) lo u) : gT (w.setCell ⟨g, i, none⟩ v) lo u := by
  obtain ⟨B, n, c, rfl, hn, h1⟩ := h
  refine ⟨B, n, c, rfl, hn, ?_⟩
  rcases h1 with h0 | ⟨g', ys, h2, h3, h4, h5, h6⟩
  · exact Or.inl h0
  · refine Or.inr ⟨g', ys, h2, h3, (heap_set_other w g i v g' (ty_ne hr h4 ht).symm).trans h4, h5, fun j hj => ?_⟩
    obtain ⟨u, e, hu⟩ := h6 j hj
    exact ⟨u, e, hx u hu⟩
/-- A transaction that is struck. -/
theorem gT.nil {w : World} {lo g i : Nat} {u : Value} {xs : Array Value} (h : gT w lo u) (hr : w.heap[g]? = some (.cells xs 34 (0, 0))) : gT (w.setCell ⟨g, i, none⟩ (.slice none 0 0)) lo u := by
  obtain ⟨B, n, c, rfl, hn, h1⟩ := h
  refine ⟨B, n, c, rfl, hn, ?_⟩
  rcases h1 with h0 | ⟨g', ys, h2, h3, h4, h5, h6⟩
  · exact Or.inl h0
  · have hx : ∀ u, gX w lo u → gX (w.setCell ⟨g, i, none⟩ (.slice none 0 0)) lo u := fun u hu => hu.other hr (by decide)
    by_cases he : g' = g
    · subst he
      refine Or.inr ⟨g', _, h2, h3, heap_set_same w g' i _ _ _ h4, by simpa using h5, fun j hj => ?_⟩
      by_cases hji : j = i
      · subst hji
        exact ⟨_, Array.getElem?_setIfInBounds_self_of_lt (by omega), none, 0, 0, rfl, by omega, Or.inl rfl⟩
      · obtain ⟨u, e, hu⟩ := h6 j hj
        exact ⟨u, by rw [Array.getElem?_setIfInBounds_ne (by omega)]; exact e, hx u hu⟩
    · refine Or.inr ⟨g', ys, h2, h3, (heap_set_other w g i _ g' he).trans h4, h5, fun j hj => ?_⟩
      obtain ⟨u, e, hu⟩ := h6 j hj
      exact ⟨u, e, hx u hu⟩
theorem gA.other {w : World} {lo g i M : Nat} {T : Option Addr} {F : Nat → Value} {v : Value} {xs : Array Value} {t : TypeId} (h : gA w lo T M F) (hr : w.heap[g]? = some (.cells xs t (0, 0))) (ht : t ≠ 33) (hx : ∀ u, gT w lo u → gT (w.setCell ⟨g, i, none⟩ v) lo u) : gA (w.setCell ⟨g, i, none⟩ v) lo T M F := fun k hk => by
  obtain ⟨g', ys, h2, h3, h4, h5, h6⟩ := h k hk
  exact ⟨g', ys, h2, h3, (heap_set_other w g i v g' (ty_ne hr h4 ht).symm).trans h4, h5, hx _ h6⟩
/-- The copy while it is written over. -/
structure Over (W9 : World) (lo Hc : Nat) (box : Array Value) (I : Option Addr) (n : Nat) (T : Option Addr) (M : Nat) (F : Nat → Value) (wr : World) : Prop where
  low : Below lo W9 wr
  box : wr.heap[Hc]? = some (.cells box 25 (0, 0))
  ini : n = 0 ∨ ∃ g xs, I = some ⟨g, 0, none⟩ ∧ lo ≤ g ∧ wr.heap[g]? = some (.cells xs 2 (0, 0)) ∧ n ≤ xs.size
  thr : gA wr lo T M F
/-- A store in a row of this type: into a value, a statement, or nothing for a transaction. -/
theorem Over.int {W9 : World} {lo Hc : Nat} {box : Array Value} {I : Option Addr} {n : Nat} {T : Option Addr} {M : Nat} {F : Nat → Value} {wr : World} (h : Over W9 lo Hc box I n T M F wr) {g i : Nat} {xs : Array Value} {v : Value} (hg : lo ≤ g) (hr : wr.heap[g]? = some (.cells xs 2 (0, 0))) : Over W9 lo Hc box I n T M F (wr.setCell ⟨g, i, none⟩ v) := by
  refine ⟨h.low.setCell (p := ⟨g, i, none⟩) hg _, (heap_set_other wr g i v Hc (ty_ne hr h.box (by decide)).symm).trans h.box, ?_, h.thr.other hr (by decide) fun u hu => hu.other hr (by decide) fun u hu => hu.other hr (by decide)⟩
  rcases h.ini with h0 | ⟨g', ys, h2, h3, h4, h5⟩
  · exact Or.inl h0
  · by_cases he : g' = g
    · subst he
      exact Or.inr ⟨g', _, h2, h3, heap_set_same wr g' i v _ _ h4, by simpa using h5⟩
    · exact Or.inr ⟨g', ys, h2, h3, (heap_set_other wr g i v g' he).trans h4, h5⟩
theorem Over.ini_other {wr : World} {lo n g i : Nat} {I : Option Addr} {xs : Array Value} {t : TypeId} {v : Value} (h : n = 0 ∨ ∃ g xs, I = some ⟨g, 0, none⟩ ∧ lo ≤ g ∧ wr.heap[g]? = some (.cells xs 2 (0, 0)) ∧ n ≤ xs.size) (hr : wr.heap[g]? = some (.cells xs t (0, 0))) (ht : t ≠ 2) : n = 0 ∨ ∃ g' xs, I = some ⟨g', 0, none⟩ ∧ lo ≤ g' ∧ (wr.setCell ⟨g, i, none⟩ v).heap[g']? = some (.cells xs 2 (0, 0)) ∧ n ≤ xs.size := by
  rcases h with h0 | ⟨g', ys, h2, h3, h4, h5⟩
  · exact Or.inl h0
  · exact Or.inr ⟨g', ys, h2, h3, (heap_set_other wr g i v g' (ty_ne hr h4 ht).symm).trans h4, h5⟩
theorem Over.stmt {W9 : World} {lo Hc : Nat} {box : Array Value} {I : Option Addr} {n : Nat} {T : Option Addr} {M : Nat} {F : Nat → Value} {wr : World} (h : Over W9 lo Hc box I n T M F wr) {g i : Nat} {xs : Array Value} {v : Value} (hg : lo ≤ g) (hr : wr.heap[g]? = some (.cells xs 39 (0, 0))) : Over W9 lo Hc box I n T M F (wr.setCell ⟨g, i, none⟩ v) :=
  ⟨h.low.setCell (p := ⟨g, i, none⟩) hg _, (heap_set_other wr g i v Hc (ty_ne hr h.box (by decide)).symm).trans h.box, Over.ini_other h.ini hr (by decide), h.thr.other hr (by decide) fun u hu => hu.other hr (by decide) fun u hu => hu.stmt hr⟩
theorem Over.nil {W9 : World} {lo Hc : Nat} {box : Array Value} {I : Option Addr} {n : Nat} {T : Option Addr} {M : Nat} {F : Nat → Value} {wr : World} (h : Over W9 lo Hc box I n T M F wr) {g i : Nat} {xs : Array Value} (hg : lo ≤ g) (hr : wr.heap[g]? = some (.cells xs 34 (0, 0))) : Over W9 lo Hc box I n T M F (wr.setCell ⟨g, i, none⟩ (.slice none 0 0)) :=
  ⟨h.low.setCell (p := ⟨g, i, none⟩) hg _, (heap_set_other wr g i _ Hc (ty_ne hr h.box (by decide)).symm).trans h.box, Over.ini_other h.ini hr (by decide), h.thr.other hr (by decide) fun u hu => hu.nil hr⟩
theorem RowX.lo {w : World} {S : Nat → Prop} {lo : Nat} {B : Option Addr} {n : Nat} (h : RowX w S B n) (hS : ∀ b, S b → lo ≤ b) : RowX w (fun b => lo ≤ b) B n := h.keep hS fun _ _ => rfl
theorem isThread.gT {w : World} {d lo : Nat} {S : Nat → Prop} {u : Value} {l : List (List St)} (h : isThread d w S u l) (hS : ∀ b, S b → lo ≤ b) (hl : l.length ≤ 20) (hx : ∀ x ∈ l, x.length ≤ 500) : gT w lo u := by
  obtain ⟨B, c, rfl, h1, h2, h3, h4⟩ := h
  refine ⟨B, l.length, c, rfl, by omega, ?_⟩
  rcases h3 with h0 | ⟨g, xs, e, hg, hr, hn⟩
  · exact Or.inl h0
  · refine Or.inr ⟨g, xs, e, hS _ hg, hr, hn, fun j hj => ?_⟩
    obtain ⟨p, C, c2, e2, m1, c1, l1, k1, r1⟩ := h2 j hj
    rw [e] at e2
    cases e2
    rw [row_add] at c1
    have h5 : w.cell? ⟨g, j, none⟩ = xs[j]? := cell_of_row w g j _ _ (0, 0) hr
    exact ⟨_, h5.symm.trans c1, C, l[j].length, c2, rfl, by have := hx _ (List.getElem_mem hj); omega, r1.lo fun b hb => hS b hb.1⟩
theorem over_start {W9 : World} {lo mid d c Hc : Nat} {I T : Option Addr} {s : Su} {a : Nat → Nat} {box : Array Value} {vals : List Value} (hsu : SuW W9 lo mid d I T s a) (hI : W9.ownsRow lo 2 1 (.slice I s.init.length c) s.init.length vals) (hf : FewS s) (hb : W9.heap[Hc]? = some (.cells box 25 (0, 0))) :
    ∃ F, Over W9 lo Hc box I s.init.length T s.thr.length F W9 := by
  have hlm := hsu.lm
  have halo := hsu.alo
  have hst : ∀ k, k < s.thr.length → ∃ v : Value, ∃ g xs, T = some ⟨g, 0, none⟩ ∧ lo ≤ g ∧ W9.heap[g]? = some (.cells xs 33 (0, 0)) ∧ xs[k]? = some v ∧ gT W9 lo v := fun k hk => by
    obtain ⟨p, u, e, m1, m2, c1, h1⟩ := hsu.parts k hk
    rcases hsu.row with h0 | ⟨g, xs, e2, ⟨g1, g2⟩, hr, hn⟩
    · omega
    · rw [e2] at e
      cases e
      rw [row_add] at c1
      have h5 : W9.cell? ⟨g, k, none⟩ = xs[k]? := cell_of_row W9 g k _ _ (0, 0) hr
      have := hsu.mono 0 k (by omega)
      exact ⟨u, g, xs, e2, by omega, hr, h5.symm.trans c1, h1.gT (fun b hb => by omega) (hf.txs _ (List.getElem_mem hk)) fun x hx => (hf.tx _ (List.getElem_mem hk) x hx).len⟩
  obtain ⟨F, hF⟩ := Go.Deep.choose_lt hst
  refine ⟨F, Below.refl _ _, hb, ?_, hF⟩
  rcases hI.2 with ⟨h1, h2⟩ | ⟨g, cap, cur, h1, h2, h3, h4, h5, h6, _⟩
  · exact Or.inl h2
  · refine Or.inr ⟨g, cur, ?_, h2, h3, by omega⟩
    injection h1
end Go.Proofs.YtnkdaehmdcpafaaDoor
