/-
  CONTRACTS OF PACKAGE buffer's Get, All and Copy, of a buffer as it lies. Conditions: as they stand.
-/
import Derived.Test.YtmjcipojidimgaaLq
namespace Go.Proofs.Ytmjcipojidimgaa
set_option maxRecDepth 100000
open Go.RowKit Go.Maps Go.Shelf
set_option linter.unusedVariables false
theorem row_le {T : List (List Pr)} {r : List Pr} (h : r ∈ T) : r.length ≤ (flat T).length := by
  induction T with
  | nil => exact absurd h (by simp)
  | cons a t ih =>
    show _ ≤ (flat t ++ a).length
    rw [List.length_append]
    rcases List.mem_cons.1 h with rfl | h
    · omega
    · have := ih h; omega
theorem attach_map8 {α β : Type} (L : List α) (f : α → β) : L.attach.map (fun x => f x.1) = L.map f := by
  have : L.attach.map (fun x => f x.1) = (L.attach.map Subtype.val).map f := by rw [List.map_map]; rfl
  rw [this, List.attach_map_subtype_val]
section
variable {w : World} {q : Nat} {S : Nat → Prop} {p0 : Option Nat} {top : List Pr} {A : Option Addr} {c : Nat} {L : List (Option Nat × List Pr)}
/-- The levels, each as it lies. -/
def BufAt.levs (h : BufAt w q S p0 top A c L) (hs : ∀ x ∈ L, x.2.length ≤ 1000) : List (Lev w w.heap.size) := L.attach.map fun x => ⟨x.1.1, x.1.2, h.lev x.1 x.2, fun b e => h.lt b (h.levS x.1 x.2 b e), hs x.1 x.2, h.okL x.1 x.2⟩
theorem BufAt.levs_len (h : BufAt w q S p0 top A c L) (hs : ∀ x ∈ L, x.2.length ≤ 1000) : (h.levs hs).length = L.length := by simp [BufAt.levs]
theorem BufAt.levs_rows (h : BufAt w q S p0 top A c L) (hs : ∀ x ∈ L, x.2.length ≤ 1000) : rowsOf (h.levs hs) = L.map Prod.snd := by
  simp [rowsOf, BufAt.levs, List.map_map, Function.comp_def]
  exact attach_map8 L Prod.snd
theorem BufAt.levs_p (h : BufAt w q S p0 top A c L) (hs : ∀ x ∈ L, x.2.length ≤ 1000) : (h.levs hs).map Lev.p = L.map Prod.fst := by
  simp [BufAt.levs, List.map_map, Function.comp_def]
  exact attach_map8 L Prod.fst
theorem BufAt.lies (h : BufAt w q S p0 top A c L) (hs : ∀ x ∈ L, x.2.length ≤ 1000) : Lies8 Lev.p w w.heap.size A (h.levs hs) := by
  intro j hj
  have hjL : j < L.length := by rw [← h.levs_len hs]; exact hj
  rcases h.row.2 with ⟨_, h0⟩ | ⟨g, cap, cur, hv, _, hg, h1, h2, h3, h4⟩
  · omega
  · injection hv with hA _ _
    refine ⟨⟨g, 0, none⟩, hA, (Array.getElem?_eq_some_iff.1 hg).1, ?_⟩
    have e0 : ((h.levs hs).map Lev.p)[j]? = (L.map Prod.fst)[j]? := by rw [h.levs_p hs]
    rw [List.getElem?_map, List.getElem?_eq_getElem hj, List.getElem?_map, List.getElem?_eq_getElem hjL] at e0
    have e0 : (h.levs hs)[j].p = L[j].1 := by simpa using e0
    rw [e0, ad8_zero]
    have e1 : (cur.toList.take (L.length * 1))[j]? = some (.map L[j].1) := by
      rw [h4, List.getElem?_map, List.getElem?_eq_getElem hjL]
      rfl
    rw [List.getElem?_take_of_lt (by omega)] at e1
    have e2 : cur[j]? = some (.map L[j].1) := by simpa using e1
    simp [World.cell?, hg, e2]
def BufAt.topLev (h : BufAt w q S p0 top A c L) (hs : top.length ≤ 1000) : Lev w w.heap.size := ⟨p0, top, h.top_, fun b e => h.lt b (h.topS b e), hs, h.okT⟩
end
/-- Get: what is written of a variable, and whether anything is. -/
theorem get_any (q : Nat) (S : Nat → Prop) (T : List (List Pr)) (v : Int) (hv : wfI v) (w : World) (h : RB w q S T) (hT : T.length ≤ 1000) (hT2 : (flat T).length ≤ 1000) :
    Calls Try.prog 21 #[.pointer (some ⟨q, 0, none⟩), .int .i64 v] w fun e w' => e = .returned (got (saysL T v)) ∧ Below w.heap.size w w' := by
  obtain ⟨p0, top, A, c, L, hb, rfl⟩ := h
  have h1 : top.length ≤ 1000 := Nat.le_trans (row_le (by simp)) hT2
  have h2 : ∀ x ∈ L, x.2.length ≤ 1000 := fun x hx => Nat.le_trans (row_le (by simp; exact .inr ⟨x.1, hx⟩)) hT2
  obtain ⟨c0, c1, _, _⟩ := hb.c0
  have hlen := hb.levs_len h2
  rw [← hlen] at c1
  have hg := get_in 5 (by omega) q c A w (hb.topLev h1) (hb.levs h2) v hv (hb.lt q hb.own) c0 c1 (hb.lies h2) (by rw [hlen]; simp at hT; omega)
  refine callsIn_wide.1 (hg.mono ?_)
  rintro e w' ⟨rfl, hB⟩
  refine ⟨?_, hB⟩
  have : rowsOf (hb.topLev h1 :: (hb.levs h2).reverse) = top :: (L.map Prod.snd).reverse := by
    show top :: rowsOf (hb.levs h2).reverse = _
    rw [← hb.levs_rows h2]
    simp [rowsOf]
  rw [this]
/-- All: the rising row of all that is written, in new memory. -/
theorem all_any (q : Nat) (S : Nat → Prop) (T : List (List Pr)) (w : World) (h : RB w q S T) (hT : T.length ≤ 1000) (hT2 : (flat T).length ≤ 1000) :
    Calls Try.prog 23 #[.pointer (some ⟨q, 0, none⟩)] w fun e w' => ∃ (B : Option Addr) (d : Nat), e = .returned (.slice B (allS (flat T)).length d) ∧ w'.ownsRow w.heap.size 43 2 (.slice B (allS (flat T)).length d) (allS (flat T)).length (pairCells (allS (flat T))) ∧ Below w.heap.size w w' := by
  obtain ⟨p0, top, A, c, L, hb, rfl⟩ := h
  have h1 : top.length ≤ 1000 := Nat.le_trans (row_le (by simp)) hT2
  have h2 : ∀ x ∈ L, x.2.length ≤ 1000 := fun x hx => Nat.le_trans (row_le (by simp; exact .inr ⟨x.1, hx⟩)) hT2
  obtain ⟨c0, c1, _, _⟩ := hb.c0
  have hlen := hb.levs_len h2
  rw [← hlen] at c1
  have hg := all_in 7 (by omega) q c A w (hb.topLev h1) (hb.levs h2) (hb.lt q hb.own) c0 c1 (hb.lies h2) (by rw [hlen]; simp at hT; omega)
  have : rowsOf (hb.topLev h1 :: (hb.levs h2).reverse) = top :: (L.map Prod.snd).reverse := by
    show top :: rowsOf (hb.levs h2).reverse = _
    rw [← hb.levs_rows h2]
    simp [rowsOf]
  rw [this] at hg
  exact callsIn_wide.1 hg
theorem snoc_at {w5 w9 : World} {q : Nat} {S : Nat → Prop} {p0 : Option Nat} {top : List Pr} {A : Option Addr} {c : Nat} {L : List (Option Nat × List Pr)} (hb : BufAt w5 q S p0 top A c L) {p' : Option Nat} {row : List Pr} (hl : LO w5 p' row.length (rowSays row)) (hnew : ∀ b, p' = some b → ¬ S b) (hok : ∀ e ∈ row, wfI e.1 ∧ wfI e.2) (hfull : p' = none ∨ row ≠ [])
    {g cap : Nat} {o : Obj} (hown : w9.ownsRow 0 52 1 (.slice (some ⟨g, 0, none⟩) (L.length + 1) cap) (L.length + 1) (L.map (fun x => Value.map x.1) ++ [.map p'])) (hgrow : (w5.alloc o).grownBy w9 (Value.ownBlock (.slice A L.length c))) (hat : Value.ownBlock (.slice A L.length c) = some g ∨ w5.heap.size ≤ g) (hgl : g < w9.heap.size) :
    BufAt (w9.setCell ⟨q, 1, none⟩ (.slice (some ⟨g, 0, none⟩) (L.length + 1) cap)) q (fun i => S i ∨ i = g ∨ p' = some i) p0 top (some ⟨g, 0, none⟩) cap (L ++ [(p', row)]) := by
  have hk : ∀ i, i < w5.heap.size → Value.ownBlock (.slice A L.length c) ≠ some i → w9.heap[i]? = w5.heap[i]? := fun i hi hne => (hgrow.block i (by simp; omega) (fun e => hne e.symm)).trans (Below.heap_alloc w5 o i hi)
  have hqlt := hb.lt q hb.own
  have hq9 : w9.heap[q]? = some (.cells #[.map p0, .slice A L.length c] 55 (0, 0)) := (hk q hqlt (fun e => (hb.own_block q e).2.1 rfl)).trans hb.obj
  have hgq : g ≠ q := by
    rcases hat with h | h
    · exact (hb.own_block g h).2.1
    · omega
  have hs : ∀ i, i ≠ q → (w9.setCell ⟨q, 1, none⟩ (.slice (some ⟨g, 0, none⟩) (L.length + 1) cap)).heap[i]? = w9.heap[i]? := fun i hi => Below.heap_setCell w9 ⟨q, 1, none⟩ _ i hi
  have hm : ∀ {p : Option Nat} {n : Nat} {f : Int → Option Int}, LO w5 p n f → LO (w9.setCell ⟨q, 1, none⟩ (.slice (some ⟨g, 0, none⟩) (L.length + 1) cap)) p n f := fun {p n f} h => h.of_block fun i e => (hs i (hb.map_ne h i e)).trans (hk i (h.lt i e) (fun e2 => (hb.own_block i e2).2.2 h e))
  exact {
    own := .inl hb.own
    obj := by
      have := setBlock8 hq9 1 (.slice (some ⟨g, 0, none⟩) (L.length + 1) cap)
      rw [this]
      simp
    row := by
      rw [List.map_append, List.length_append]
      exact ownsRow_of_block hown fun p e => by injection e with e; subst e; exact hs g hgq
    rowS := fun p e => by injection e with e; subst e; exact .inr (.inl rfl)
    top_ := hm hb.top_
    lev := fun x hx => by
      rcases List.mem_append.1 hx with h | h
      · exact hm (hb.lev x h)
      · rw [List.mem_singleton.1 h]; exact hm hl
    topS := fun b e => .inl (hb.topS b e)
    levS := fun x hx b e => by
      rcases List.mem_append.1 hx with h | h
      · exact .inl (hb.levS x h b e)
      · rw [List.mem_singleton.1 h] at e; exact .inr (.inr e)
    apart := by
      rw [List.map_append]
      show ((p0 :: L.map Prod.fst) ++ [p']).Pairwise _
      refine List.pairwise_append.2 ⟨hb.apart, by simp, fun a ha b hb' => ?_⟩
      simp only [List.mem_singleton] at hb'
      subst hb'
      by_cases hn : a = none
      · exact .inl hn
      · obtain ⟨i, rfl⟩ := Option.ne_none_iff_exists'.1 hn
        refine .inr fun e => hnew i e.symm ?_
        rcases List.mem_cons.1 ha with h | h
        · exact hb.topS i h.symm
        · obtain ⟨x, hx, h⟩ := List.mem_map.1 h
          exact hb.levS x hx i h
    full := hb.full
    fullL := fun x hx => by
      rcases List.mem_append.1 hx with h | h
      · exact hb.fullL x h
      · rw [List.mem_singleton.1 h]; exact hfull
    okT := hb.okT
    okL := fun x hx => by
      rcases List.mem_append.1 hx with h | h
      · exact hb.okL x h
      · rw [List.mem_singleton.1 h]; exact hok
    lt := fun i hi => by
      have hz : (w9.setCell ⟨q, 1, none⟩ (.slice (some ⟨g, 0, none⟩) (L.length + 1) cap)).heap.size = w9.heap.size := by simp [World.setCell]
      have := hgrow.size
      simp at this
      rw [hz]
      rcases hi with h | rfl | h
      · have := hb.lt i h; omega
      · exact hgl
      · have := hl.lt i h; omega }
end Go.Proofs.Ytmjcipojidimgaa
