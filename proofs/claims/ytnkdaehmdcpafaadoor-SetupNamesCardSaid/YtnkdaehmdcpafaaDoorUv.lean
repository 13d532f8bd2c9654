/-
  WORDS FOR A COPY THAT IS CLONED AND THEN FILLED, ELEMENT BY ELEMENT: how things are behind k elements, and what lies there at the end. Conditions: as they stand.
-/
import Derived.Test.YtnkdaehmdcpafaaDoorUt
import Derived.Test.YtnkdaehmdcpafaaDoorZb
namespace Go.Proofs.YtnkdaehmdcpafaaDoor
open Go.RowKit
set_option linter.unusedVariables false
structure RWI {α : Type} (P : World → (Nat → Prop) → Value → α → Prop) (t : TypeId) (B0 : Nat) (w0 : World) (l : List α) (old : List Value) (cap g k : Nat) (a : Nat → Nat) (wr : World) : Prop where
  row : ∃ cur, wr.heap[g]? = some (.cells cur t (0, 0)) ∧ cur.size = cap ∧ (∀ j, k ≤ j → j < l.length → cur[j]? = old[j]?) ∧ ∀ j, j < k → ∀ (h : j < l.length), ∃ u, cur[j]? = some u ∧ P wr (fun b => a j ≤ b ∧ b < a (j + 1)) u l[j]
  len : l.length ≤ cap
  max : cap ≤ maxLen
  mono : ∀ i j, i ≤ j → a i ≤ a j
  lo : g < a 0
  hi : ∀ j, a j ≤ wr.heap.size
  bg : B0 ≤ g
  low : Below B0 w0 wr
theorem RWI.start {α : Type} {P : World → (Nat → Prop) → Value → α → Prop} {t : TypeId} {B0 : Nat} {w0 wr : World} {l : List α} {old : List Value} {cap g : Nat} (own : wr.ownsRow B0 t 1 (.slice (some ⟨g, 0, none⟩) l.length cap) l.length old) (low : Below B0 w0 wr) (hl : 0 < l.length) : RWI P t B0 w0 l old cap g 0 (fun _ => wr.heap.size) wr := by
  obtain ⟨h1, ⟨h2, _⟩ | ⟨g', cap', cur, hv, hb, hr, hc, hm, hs, ht⟩⟩ := own
  · cases h2
  · have e : g = g' ∧ cap = cap' := by
      injection hv with e1 e2 e3
      injection e1 with e1
      injection e1 with e1
      exact ⟨e1, e3⟩
    obtain ⟨rfl, rfl⟩ := e
    refine ⟨⟨cur, hr, by omega, fun j _ hj => ?_, fun j hj => absurd hj (by omega)⟩, hc, hm, fun _ _ _ => Nat.le_refl _, (Array.getElem?_eq_some_iff.1 hr).1, fun _ => Nat.le_refl _, hb, low⟩
    rw [← ht, List.getElem?_take_of_lt (by omega)]
    simp
theorem RWI.cell {α : Type} {P : World → (Nat → Prop) → Value → α → Prop} {t : TypeId} {B0 : Nat} {w0 wr : World} {l : List α} {old : List Value} {cap g k : Nat} {a : Nat → Nat} (inv : RWI P t B0 w0 l old cap g k a wr) (hk : k < l.length) {u : Value} (hu : old[k]? = some u) : wr.cell? ⟨g, k, none⟩ = some u ∧ wr.frozen? ⟨g, k, none⟩ = false := by
  obtain ⟨cur, h1, h2, h3, h4⟩ := inv.row
  exact ⟨(cell_of_row wr g k _ _ (0, 0) h1).trans ((h3 k (Nat.le_refl _) hk).trans hu), by simp [World.frozen?, h1]⟩
theorem RWI.lt {α : Type} {P : World → (Nat → Prop) → Value → α → Prop} {t : TypeId} {B0 : Nat} {w0 wr : World} {l : List α} {old : List Value} {cap g k : Nat} {a : Nat → Nat} (inv : RWI P t B0 w0 l old cap g k a wr) : g < wr.heap.size := by
  obtain ⟨cur, h1, _⟩ := inv.row
  exact (Array.getElem?_eq_some_iff.1 h1).1
theorem RWI.below {α : Type} {P : World → (Nat → Prop) → Value → α → Prop} (hP : Kept6 P) {t : TypeId} {B0 : Nat} {w0 wr w5 : World} {l : List α} {old : List Value} {cap g k : Nat} {a : Nat → Nat} (inv : RWI P t B0 w0 l old cap g k a wr) (b5 : Below wr.heap.size wr w5) : RWI P t B0 w0 l old cap g k a w5 := by
  have hg := inv.lt
  obtain ⟨cur, h1, h2, h3, h4⟩ := inv.row
  refine ⟨⟨cur, (b5.block g hg).trans h1, h2, h3, fun j hj h => ?_⟩, inv.len, inv.max, inv.mono, inv.lo, fun j => Nat.le_trans (inv.hi j) b5.size, inv.bg, inv.low.trans (b5.mono (by have := inv.bg; omega))⟩
  obtain ⟨u, i1, hu⟩ := h4 j hj h
  exact ⟨u, i1, hP.keep _ _ _ _ _ _ hu (fun b hb => hb) fun b hb => b5.block b (by have := inv.hi (j + 1); omega)⟩
theorem RWI.step {α : Type} {P : World → (Nat → Prop) → Value → α → Prop} (hP : Kept6 P) {t : TypeId} {B0 : Nat} {w0 wr w5 : World} {l : List α} {old : List Value} {cap g k : Nat} {a : Nat → Nat} (inv : RWI P t B0 w0 l old cap g k a wr) (hk : k < l.length)
    (b5 : Below wr.heap.size wr w5) {u : Value} (hu : P w5 (fun b => wr.heap.size ≤ b ∧ b < w5.heap.size) u l[k]) :
    RWI P t B0 w0 l old cap g (k + 1) (fun j => if j < k then a j else if j = k then wr.heap.size else w5.heap.size) (w5.setCell ⟨g, k, none⟩ u) := by
  have hg := inv.lt
  have hz5 := b5.size
  have hbg := inv.bg
  have hlen := inv.len
  obtain ⟨cur, h1, h2, h3, h4⟩ := inv.row
  have hr5 : w5.heap[g]? = some (.cells cur t (0, 0)) := (b5.block g hg).trans h1
  have hko : ∀ b, b ≠ g → (w5.setCell ⟨g, k, none⟩ u).heap[b]? = w5.heap[b]? := fun b hb => heap_set_other w5 g k u b hb
  refine ⟨⟨_, heap_set_same w5 g k u _ _ hr5, by simp [h2], fun j hj hjl => ?_, fun j hj h => ?_⟩, inv.len, inv.max, fun i j hij => ?_, ?_, fun j => ?_, inv.bg, (inv.low.trans (b5.mono (by omega))).setCell (p := ⟨g, k, none⟩) hbg _⟩
  · rw [Array.getElem?_setIfInBounds_ne (by omega)]
    exact h3 j (by omega) hjl
  · by_cases hjk : j < k
    · obtain ⟨v, i1, hv⟩ := h4 j hjk h
      have q1 := inv.hi (j + 1)
      have q2 : (if j + 1 < k then a (j + 1) else if j + 1 = k then wr.heap.size else w5.heap.size) ≥ a (j + 1) := by
        split
        · omega
        · split <;> omega
      have q3 := inv.mono 0 j (by omega)
      have q4 := inv.lo
      refine ⟨v, by rw [Array.getElem?_setIfInBounds_ne (by omega)]; exact i1, hP.keep _ _ _ _ _ _ hv (fun b hb => ?_) fun b hb => (hko b (by omega)).trans (b5.block b (by omega))⟩
      rw [if_pos hjk]
      omega
    · obtain rfl : j = k := by omega
      refine ⟨u, by rw [Array.getElem?_setIfInBounds_self_of_lt (by omega)], hP.keep _ _ _ _ _ _ hu (fun b hb => ?_) fun b hb => hko b (by omega)⟩
      rw [if_neg (by omega), if_pos rfl, if_neg (by omega), if_neg (by omega)]
      exact hb
  · have q1 := inv.mono i j hij
    have q2 := inv.hi i
    have q3 := inv.hi j
    split <;> split <;> first | omega | (split <;> first | omega | (split <;> omega))
  · have q1 := inv.lo
    split
    · exact q1
    · split <;> omega
  · have q1 := inv.hi j
    have q2 : (w5.setCell ⟨g, k, none⟩ u).heap.size = w5.heap.size := by simp
    rw [q2]
    split
    · omega
    · split <;> omega
theorem RWI.own {α : Type} {P : World → (Nat → Prop) → Value → α → Prop} {t : TypeId} {B0 : Nat} {w0 wr : World} {l : List α} {old : List Value} {cap g k : Nat} {a : Nat → Nat} (inv : RWI P t B0 w0 l old cap g k a wr) : ∃ hs, wr.ownsRow B0 t 1 (.slice (some ⟨g, 0, none⟩) l.length cap) l.length hs := by
  obtain ⟨cur, h1, h2, h3, h4⟩ := inv.row
  have := inv.len
  exact ⟨cur.toList.take (l.length * 1), by simp; omega, Or.inr ⟨g, cap, cur, rfl, inv.bg, h1, inv.len, inv.max, by omega, rfl⟩⟩
/-- The parts at the end. -/
theorem RWI.parts {α : Type} {P : World → (Nat → Prop) → Value → α → Prop} (hP : Kept6 P) {t : TypeId} {B0 : Nat} {w0 wr : World} {l : List α} {old : List Value} {cap g : Nat} {a : Nat → Nat} (inv : RWI P t B0 w0 l old cap g l.length a wr) : RowS wr (fun b => B0 ≤ b ∧ b < wr.heap.size) (some ⟨g, 0, none⟩) l.length t ∧
    ∀ j (h : j < l.length), ∃ p u, (some ⟨g, 0, none⟩ : Option Addr) = some p ∧ B0 ≤ p.block ∧ p.block < wr.heap.size ∧ wr.cell? (p.add j) = some u ∧ P wr (fun b => (a j ≤ b ∧ b < a (j + 1)) ∧ ∀ p, (some ⟨g, 0, none⟩ : Option Addr) = some p → b ≠ p.block) u l[j] := by
  have hg := inv.lt
  have hlen := inv.len
  obtain ⟨cur, h1, h2, h3, h4⟩ := inv.row
  refine ⟨Or.inr ⟨g, cur, rfl, ⟨inv.bg, hg⟩, h1, by omega⟩, fun j hj => ?_⟩
  obtain ⟨u, i1, hu⟩ := h4 j hj hj
  have q1 := inv.mono 0 j (by omega)
  have q2 := inv.lo
  refine ⟨⟨g, 0, none⟩, u, rfl, inv.bg, hg, by rw [row_add]; exact (cell_of_row wr g j _ _ (0, 0) h1).trans i1, hP.keep _ _ _ _ _ _ hu (fun b hb => ⟨hb, fun p hp => ?_⟩) fun _ _ => rfl⟩
  cases hp
  show b ≠ g
  omega
theorem RWI.thread {d : Nat} {B0 : Nat} {w0 wr : World} {l : List (List St)} {old : List Value} {cap g : Nat} {a : Nat → Nat} (inv : RWI (isTx d) 34 B0 w0 l old cap g l.length a wr) (hl : l.length ≤ 9223372036854775807) : isThread d wr (fun b => B0 ≤ b ∧ b < wr.heap.size) (.slice (some ⟨g, 0, none⟩) l.length cap) l := by
  obtain ⟨hr, hp⟩ := inv.parts (isTx_kept d)
  have hbg := inv.bg
  refine ⟨_, _, rfl, hl, fun j hj => ?_, hr, inv.len⟩
  obtain ⟨p, u, e1, m1, m2, c1, C, c2, rfl, l1, h1, r1⟩ := hp j hj
  have h2 := inv.mono 0 j (by omega)
  have h3 := inv.lo
  have h4 := inv.hi (j + 1)
  exact ⟨p, C, c2, e1, ⟨m1, m2⟩, c1, l1, h1.keep (fun b hb => ⟨⟨by omega, by omega⟩, hb.2⟩) (fun _ _ => rfl), r1.keep (fun b hb => ⟨⟨by omega, by omega⟩, hb.2⟩) fun _ _ => rfl⟩
/-- What the setup's Copy leaves. -/
def CopiedC (w : World) (d : Nat) (s : Su) (e : Ending) (w' : World) : Prop := ∃ I c T c' mid a hs, e = .returned (.agg #[.int .i64 s.st, .int .i64 s.cl, .int .i64 s.tr, .slice I s.init.length c, .slice T s.thr.length c']) ∧ SuW w' w.heap.size mid d I T s a ∧
  w'.ownsRow w.heap.size 2 1 (.slice I s.init.length c) s.init.length (s.init.map (Value.int .i64 ·)) ∧ w'.ownsRow mid 33 1 (.slice T s.thr.length c') s.thr.length hs ∧ Below w.heap.size w w' ∧ ∀ p, I = some p → p.block < mid
end Go.Proofs.YtnkdaehmdcpafaaDoor
