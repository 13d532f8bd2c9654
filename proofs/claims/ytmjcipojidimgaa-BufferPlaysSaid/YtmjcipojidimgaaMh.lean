/-
  CONTRACT OF seesawref08's All: the rising row of all that is written, in new memory. Conditions: as they stand.
-/
import Derived.Test.YtmjcipojidimgaaMd
import Derived.Deep.QuietTactic
import Derived.BigQuiet
namespace Go.Proofs.Ytmjcipojidimgaa
set_option maxRecDepth 100000
open Go.RowKit
set_option linter.unusedVariables false
/-- Where a pair is put. -/
structure AtT (l : List Pr) (k : Int) (t : Nat) : Prop where
  le : t ≤ l.length
  low : ∀ i (h : i < t) (h' : i < l.length), l[i].1 < k
theorem ins_same {p : Pr} : ∀ {l : List Pr} {t : Nat}, AtT l p.1 t → (h : t < l.length) → l[t].1 = p.1 → insS p l = l.set t (p.1, p.2)
  | [], t, _, h, _ => absurd h (by simp)
  | a :: r, 0, _, _, he => by
    have he : a.1 = p.1 := he
    unfold insS
    rw [if_neg (by omega), if_pos he, he]
    rfl
  | a :: r, t + 1, ha, h, he => by
    have h0 : a.1 < p.1 := ha.low 0 (by omega) (by simp)
    unfold insS
    rw [if_pos h0, ins_same (t := t) ⟨by have := ha.le; simp at this; omega, fun i hi hi' => ha.low (i + 1) (by omega) (by simpa using hi')⟩ (by simpa using h) he]
    rfl
theorem ins_new {p : Pr} : ∀ {l : List Pr} {t : Nat}, AtT l p.1 t → (∀ h : t < l.length, p.1 < l[t].1) → insS p l = l.take t ++ [p] ++ l.drop t
  | [], t, ha, _ => by
    have := ha.le
    simp at this
    subst this
    rfl
  | a :: r, 0, _, h => by
    have h0 : p.1 < a.1 := h (by simp)
    unfold insS
    rw [if_neg (by omega), if_neg (by omega)]
    rfl
  | a :: r, t + 1, ha, h => by
    have h0 : a.1 < p.1 := ha.low 0 (by omega) (by simp)
    unfold insS
    rw [if_pos h0, ins_new (t := t) ⟨by have := ha.le; simp at this; omega, fun i hi hi' => ha.low (i + 1) (by omega) (by simpa using hi')⟩ (fun hh => h (by simpa using hh))]
    rfl
theorem pairCells_set (l : List Pr) (t : Nat) (h : t < l.length) (k x : Int) (hk : l[t].1 = k) : (pairCells l).set (t * 2 + 1) (.int .i64 x) = pairCells (l.set t (k, x)) := by
  induction l generalizing t with
  | nil => exact absurd h (by simp)
  | cons a r ih =>
    cases t with
    | zero =>
      have hk : a.1 = k := hk
      subst hk
      rfl
    | succ t =>
      show (Value.int .i64 a.1 :: Value.int .i64 a.2 :: pairCells r).set ((t + 1) * 2 + 1) _ = Value.int .i64 a.1 :: Value.int .i64 a.2 :: pairCells (r.set t (k, x))
      rw [← ih t (by simpa using h) hk, show (t + 1) * 2 + 1 = t * 2 + 1 + 1 + 1 by omega]
      rfl
theorem pairCells_take (l : List Pr) (t : Nat) : (pairCells l).take (t * 2) = pairCells (l.take t) := by
  induction l generalizing t with
  | nil => simp [pairCells]
  | cons a r ih =>
    cases t with
    | zero => simp [pairCells]
    | succ t =>
      show (Value.int .i64 a.1 :: Value.int .i64 a.2 :: pairCells r).take ((t + 1) * 2) = Value.int .i64 a.1 :: Value.int .i64 a.2 :: pairCells (r.take t)
      rw [← ih t, show (t + 1) * 2 = t * 2 + 1 + 1 by omega]
      rfl
theorem pairCells_drop (l : List Pr) (t : Nat) : (pairCells l).drop (t * 2) = pairCells (l.drop t) := by
  induction l generalizing t with
  | nil => simp [pairCells]
  | cons a r ih =>
    cases t with
    | zero => simp [pairCells]
    | succ t =>
      show (Value.int .i64 a.1 :: Value.int .i64 a.2 :: pairCells r).drop ((t + 1) * 2) = pairCells (r.drop t)
      rw [← ih t, show (t + 1) * 2 = t * 2 + 1 + 1 by omega]
      rfl
/-- How out is, in the world wr: the rising row l. -/
def OutAt (w : World) (B : Option Addr) (d : Nat) (l : List Pr) (wr : World) : Prop := wr.ownsRow w.heap.size 43 2 (.slice B l.length d) l.length (pairCells l) ∧ Below w.heap.size w wr
theorem OutAt.below {w : World} {B : Option Addr} {d : Nat} {l : List Pr} {wr w' : World} (h : OutAt w B d l wr) (hb : Below wr.heap.size wr w') : OutAt w B d l w' := by
  refine ⟨ownsRow_of_block h.1 fun p e => hb.block _ (h.1.lt p.block (by rw [e]; rfl)).2, h.2.trans (hb.mono h.2.size)⟩
theorem OutAt.cell {w : World} {B : Option Addr} {d : Nat} {l : List Pr} {wr : World} (h : OutAt w B d l wr) {t : Nat} (ht : t < l.length) : ∃ g, B = some ⟨g, 0, none⟩ ∧ w.heap.size ≤ g ∧ g < wr.heap.size ∧ t < d ∧ wr.cell? ⟨g, t * 2, none⟩ = some (.int .i64 l[t].1) ∧ wr.cell? ⟨g, t * 2 + 1, none⟩ = some (.int .i64 l[t].2) ∧ wr.frozen? ⟨g, t * 2 + 1, none⟩ = false := by
  obtain ⟨g, hg, h1, h2, hrow⟩ := cl_form (.inr h.1) (by omega)
  subst hg
  obtain ⟨p1, p2⟩ := pairCells_get l t ht
  have hle : l.length ≤ d := by
    rcases hrow.2 with ⟨h3, _⟩ | ⟨_, _, _, hv, _, _, h5, _⟩
    · injection h3 with h3; cases h3
    · injection hv with _ _ hc; omega
  refine ⟨g, rfl, h1, h2, by omega, ?_, ?_, hrow.frozenAt _⟩
  · rw [hrow.cellAt _ (by omega), p1]
  · rw [hrow.cellAt _ (by omega), p2]
theorem OutAt.store {w : World} {g : Nat} {d : Nat} {l : List Pr} {wr : World} (h : OutAt w (some ⟨g, 0, none⟩) d l wr) {t : Nat} (ht : t < l.length) (k x : Int) (hk : l[t].1 = k) : OutAt w (some ⟨g, 0, none⟩) d (l.set t (k, x)) (wr.setCell ⟨g, t * 2 + 1, none⟩ (.int .i64 x)) := by
  have h1 := (h.1.stored (t * 2 + 1) (.int .i64 x)).1
  rw [pairCells_set l t ht k x hk] at h1
  have hg := h.1.lt g rfl
  exact ⟨by rw [List.length_set]; exact h1, h.2.setCell (p := ⟨g, t * 2 + 1, none⟩) hg.1 _⟩
theorem oh1 (w : World) (o : Obj) : Below w.heap.size w (w.alloc o).drew := ((Below.refl _ w).alloc (Nat.le_refl _) o).drew
theorem oh0 (w : World) (o : Obj) : Below w.heap.size w (w.alloc o) := (Below.refl _ w).alloc (Nat.le_refl _) o
end Go.Proofs.Ytmjcipojidimgaa
