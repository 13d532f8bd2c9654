/-
  A BUFFER OF seesawref08 AS IT LIES, with the blocks that are its own (RR); what a row that is written in its place, and a row of rows that is made anew, make of it. Conditions: as they stand.
-/
import Derived.Test.YtmjcipojidimgaaMa
namespace Go.Proofs.Ytmjcipojidimgaa
set_option maxRecDepth 100000
open Go.RowKit
set_option linter.unusedVariables false
/-- A level: where its row lies, its capacity, its pairs. -/
abbrev Lv := Option Addr × Nat × List Pr
def Lv.val (x : Lv) : Value := .slice x.1 x.2.2.length x.2.1
/-- A buffer of seesawref08 at q: its levels L, the lowest one first; S: the blocks that are its own. -/
structure RefAt (w : World) (q : Nat) (S : Nat → Prop) (g c : Nat) (L : List Lv) : Prop where
  own : S q
  ownG : S g
  ne : g ≠ q
  obj : w.heap[q]? = some (.cells #[.slice (some ⟨g, 0, none⟩) L.length c] 40 (0, 0))
  row : w.ownsRow 0 35 1 (.slice (some ⟨g, 0, none⟩) L.length c) L.length (L.map Lv.val)
  lev : ∀ x ∈ L, PairsAt w w.heap.size x.1 x.2.2
  far : ∀ x ∈ L, x.2.2 ≠ [] → ∀ p, x.1 = some p → S p.block ∧ p.block ≠ g ∧ p.block ≠ q
  lt : ∀ b, S b → b < w.heap.size
def RR (w : World) (q : Nat) (S : Nat → Prop) (T : List (List Pr)) : Prop := ∃ g c L, RefAt w q S g c L ∧ L ≠ [] ∧ T = (L.map (·.2.2)).reverse
theorem PairsAt.stay {w w' : World} {A : Option Addr} {l : List Pr} (h : PairsAt w w.heap.size A l) (hz : w.heap.size ≤ w'.heap.size) (hk : l ≠ [] → ∀ p, A = some p → w'.heap[p.block]? = w.heap[p.block]?) : PairsAt w' w'.heap.size A l := by
  by_cases e : l = []
  · subst e; intro k hk; exact absurd hk (by simp)
  · exact h.same (hk e) hz
section
variable {w : World} {q : Nat} {S : Nat → Prop} {g c : Nat} {L : List Lv}
theorem RefAt.frame (h : RefAt w q S g c L) {w' : World} {S' : Nat → Prop} (hS : ∀ b, S b → S' b) (hk : ∀ b, S b → w'.heap[b]? = w.heap[b]?) (hl : ∀ b, S' b → b < w'.heap.size) (hz : w.heap.size ≤ w'.heap.size) : RefAt w' q S' g c L where
  own := hS _ h.own
  ownG := hS _ h.ownG
  ne := h.ne
  obj := (hk q h.own).trans h.obj
  row := ownsRow_of_block h.row fun p e => by injection e with e; subst e; exact hk g h.ownG
  lev x hx := (h.lev x hx).stay hz fun he p e => hk _ (h.far x hx he p e).1
  far x hx he p e := ⟨hS _ (h.far x hx he p e).1, (h.far x hx he p e).2⟩
  lt := hl
theorem RefAt.c0 (h : RefAt w q S g c L) : w.cell? ⟨q, 0, none⟩ = some (.slice (some ⟨g, 0, none⟩) L.length c) ∧ w.frozen? ⟨q, 0, none⟩ = false := by
  have := h.obj
  simp [World.cell?, World.frozen?, this]
theorem RefAt.row_cell (h : RefAt w q S g c L) (k : Nat) (hk : k < L.length) : w.cell? ⟨g, k, none⟩ = some (.slice L[k].1 L[k].2.2.length L[k].2.1) ∧ w.frozen? ⟨g, k, none⟩ = false := by
  refine ⟨?_, h.row.frozenAt k⟩
  rw [h.row.cellAt k (by omega), List.getElem?_map, List.getElem?_eq_getElem hk]
  rfl
theorem RefAt.rows (h : RefAt w q S g c L) (hl : ∀ x ∈ L, x.2.2.length ≤ 1000000) : RowsAt w w.heap.size (some ⟨g, 0, none⟩) (L.map (·.2.2)) := by
  intro k hk
  have hk' : k < L.length := by simpa using hk
  refine ⟨⟨g, 0, none⟩, L[k].1, L[k].2.1, rfl, h.lt g h.ownG, ?_, ?_, ?_⟩
  · rw [ad8_zero, (h.row_cell k hk').1]; simp
  · simp; exact hl _ (List.getElem_mem hk')
  · simp only [List.getElem_map]; exact h.lev _ (List.getElem_mem hk')
/-- The blocks behind a call that made some. -/
def More (S : Nat → Prop) (w w' : World) (b : Nat) : Prop := S b ∨ (w.heap.size ≤ b ∧ b < w'.heap.size)
theorem cl_pairs {w1 : World} {base n : Nat} {A : Option Addr} {d : Nat} {l : List Pr} (h : ClG w1 base 43 2 (.slice A l.length d) l.length (pairCells l)) : PairsAt w1 w1.heap.size A l ∧ (l ≠ [] → ∀ p, A = some p → base ≤ p.block ∧ p.block < w1.heap.size) := by
  rcases h with ⟨gb, hv, h0, _⟩ | h
  · have : l = [] := List.length_eq_zero_iff.1 h0
    subst this
    exact ⟨fun k hk => absurd hk (by simp), fun h => absurd rfl h⟩
  · refine ⟨pairs_of_row h, fun he p e => h.lt p.block (by rw [e]; rfl)⟩
/-- A level's row, written anew in its place. -/
theorem RefAt.write (h : RefAt w q S g c L) {w1 : World} (hB : Below w.heap.size w w1) (k : Nat) (hk : k < L.length) {A : Option Addr} {d : Nat} {l : List Pr} (hcl : ClG w1 w.heap.size 43 2 (.slice A l.length d) l.length (pairCells l)) :
    RefAt (w1.setCell ⟨g, k, none⟩ (.slice A l.length d)) q (More S w w1) g c (L.set k (A, d, l)) ∧ Fro S w (w1.setCell ⟨g, k, none⟩ (.slice A l.length d)) := by
  obtain ⟨hp, hn⟩ := cl_pairs (n := 0) hcl
  have h1 : RefAt w1 q (More S w w1) g c L := h.frame (fun b hb => .inl hb) (fun b hb => hB.block b (h.lt b hb)) (fun b hb => by
    rcases hb with hb | hb
    · exact Nat.lt_of_lt_of_le (h.lt b hb) hB.size
    · exact hb.2) hB.size
  have hz : (w1.setCell ⟨g, k, none⟩ (.slice A l.length d)).heap.size = w1.heap.size := by simp [World.setCell]
  have hk2 : ∀ b, b ≠ g → (w1.setCell ⟨g, k, none⟩ (.slice A l.length d)).heap[b]? = w1.heap[b]? := fun b hb => Below.heap_setCell _ ⟨g, k, none⟩ _ b hb
  refine ⟨{
    own := h1.own
    ownG := h1.ownG
    ne := h1.ne
    obj := by rw [hk2 q (fun e => h.ne e.symm), List.length_set]; exact h1.obj
    row := by
      have := (h1.row.stored k (.slice A l.length d)).1
      rw [List.length_set, List.map_set]
      exact this
    lev := fun x hx => ?_
    far := fun x hx he p e => ?_
    lt := fun b hb => by rw [hz]; exact h1.lt b hb }, ?_⟩
  · rcases List.mem_or_eq_of_mem_set hx with hx | rfl
    · exact (h1.lev x hx).stay (by rw [hz]; exact Nat.le_refl _) fun he p e => hk2 _ (h1.far x hx he p e).2.1
    · exact hp.stay (by rw [hz]; exact Nat.le_refl _) fun he p e => hk2 _ (fun e2 => by have := (hn he p e).1; have := h.lt g h.ownG; omega)
  · rcases List.mem_or_eq_of_mem_set hx with hx | rfl
    · exact h1.far x hx he p e
    · have a := hn he p e
      exact ⟨.inr a, fun e2 => by have := h.lt g h.ownG; omega, fun e2 => by have := h.lt q h.own; omega⟩
  · exact (Fro.of_below hB (Nat.le_refl _)).trans (Fro.set (S := S) ⟨g, k, none⟩ _ h.ownG) (fun i h => .inl h)
/-- Another row of rows. -/
theorem RefAt.turn (h : RefAt w q S g c L) {w1 : World} (hB : Below w.heap.size w w1) {g' c' : Nat} {L' : List Lv} (hrow : w1.ownsRow 0 35 1 (.slice (some ⟨g', 0, none⟩) L'.length c') L'.length (L'.map Lv.val)) (hg : g' = g ∨ w.heap.size ≤ g') (hL : ∀ x ∈ L', x ∈ L ∨ x.2.2 = []) :
    RefAt (w1.setCell ⟨q, 0, none⟩ (.slice (some ⟨g', 0, none⟩) L'.length c')) q (More S w w1) g' c' L' ∧ Fro S w (w1.setCell ⟨q, 0, none⟩ (.slice (some ⟨g', 0, none⟩) L'.length c')) := by
  have h1 : RefAt w1 q (More S w w1) g c L := h.frame (fun b hb => .inl hb) (fun b hb => hB.block b (h.lt b hb)) (fun b hb => by
    rcases hb with hb | hb
    · exact Nat.lt_of_lt_of_le (h.lt b hb) hB.size
    · exact hb.2) hB.size
  have hz : (w1.setCell ⟨q, 0, none⟩ (.slice (some ⟨g', 0, none⟩) L'.length c')).heap.size = w1.heap.size := by simp [World.setCell]
  have hk2 : ∀ b, b ≠ q → (w1.setCell ⟨q, 0, none⟩ (.slice (some ⟨g', 0, none⟩) L'.length c')).heap[b]? = w1.heap[b]? := fun b hb => Below.heap_setCell _ ⟨q, 0, none⟩ _ b hb
  have hgl : g' < w1.heap.size := (hrow.lt g' rfl).2
  have hgq : g' ≠ q := by
    rcases hg with rfl | hg
    · exact h.ne
    · have := h.lt q h.own; omega
  refine ⟨{
    own := h1.own
    ownG := by
      rcases hg with rfl | hg
      · exact .inl h.ownG
      · exact .inr ⟨hg, hgl⟩
    ne := hgq
    obj := by
      have := setBlock8 h1.obj 0 (.slice (some ⟨g', 0, none⟩) L'.length c')
      simpa using this
    row := ownsRow_of_block hrow fun p e => by injection e with e; subst e; exact hk2 g' hgq
    lev := fun x hx => ?_
    far := fun x hx he p e => ?_
    lt := fun b hb => by rw [hz]; exact h1.lt b hb }, ?_⟩
  · rcases hL x hx with hx | hx
    · exact (h1.lev x hx).stay (by rw [hz]; exact Nat.le_refl _) fun he p e => hk2 _ (h1.far x hx he p e).2.2
    · intro k hk; rw [hx] at hk; exact absurd hk (by simp)
  · rcases hL x hx with hx | hx
    · have a := h1.far x hx he p e
      refine ⟨a.1, ?_, a.2.2⟩
      rcases hg with rfl | hg
      · exact a.2.1
      · have := h.lt _ (h.far x hx he p e).1; omega
    · exact absurd hx he
  · exact (Fro.of_below hB (Nat.le_refl _)).trans (Fro.set (S := S) ⟨q, 0, none⟩ _ h.own) (fun i h => .inl h)
end
theorem RR.keep {w w' : World} {q : Nat} {S S2 : Nat → Prop} {T : List (List Pr)} (h : RR w q S T) (f : Fro S2 w w') (hS : ∀ b, S b → ¬ S2 b) : RR w' q S T := by
  obtain ⟨g, c, L, h, e⟩ := h
  exact ⟨g, c, L, h.frame (fun _ h => h) (fun b hs => f.block b (h.lt b hs) (hS b hs)) (fun b hs => Nat.lt_of_lt_of_le (h.lt b hs) f.size) f.size, e⟩
theorem RR.lt {w : World} {q : Nat} {S : Nat → Prop} {T : List (List Pr)} (h : RR w q S T) : ∀ b, S b → b < w.heap.size := by obtain ⟨g, c, L, h, e⟩ := h; exact h.lt
theorem more_new {S : Nat → Prop} {w w' : World} : ∀ b, More S w w' b → S b ∨ w.heap.size ≤ b := fun b h => h.imp id fun h => h.1
theorem flat_levels (L : List Lv) : flat (L.map (·.2.2)).reverse = (L.map (·.2.2)).flatten := by rw [flat_rev, List.reverse_reverse]
theorem level_len {L : List Lv} {n : Nat} (h : (L.map (·.2.2)).flatten.length ≤ n) : ∀ x ∈ L, x.2.2.length ≤ n := fun x hx => by
  have : x.2.2.length ≤ ((L.map (·.2.2)).flatten).length := by
    induction L with
    | nil => cases hx
    | cons a r ih =>
      simp only [List.map_cons, List.flatten_cons, List.length_append] at h ⊢
      rcases List.mem_cons.1 hx with rfl | hx
      · omega
      · have := ih (by omega) hx; omega
  omega
end Go.Proofs.Ytmjcipojidimgaa
