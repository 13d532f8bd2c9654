/-
  CONTRACT OF PACKAGE buffer's Copy: one that goes its own way: the same levels, in new memory; nothing that lay has turned. Conditions: as they stand.
-/
import Derived.Test.YtmjcipojidimgaaLs
namespace Go.Proofs.Ytmjcipojidimgaa
set_option maxRecDepth 100000
open Go.RowKit Go.Maps Go.Shelf
set_option linter.unusedVariables false
theorem BufAt.cell_row {w : World} {q : Nat} {S : Nat → Prop} {p0 : Option Nat} {top : List Pr} {A : Option Addr} {c : Nat} {L : List (Option Nat × List Pr)} (h : BufAt w q S p0 top A c L) : ∀ j (hj : j < L.length), ∃ p, A = some p ∧ p.block < w.heap.size ∧ w.cell? (p.add j) = some (.map L[j].1) := by
  intro j hj
  rcases h.row.2 with ⟨_, h0⟩ | ⟨g, cap, cur, hv, _, hg, h1, h2, h3, h4⟩
  · omega
  · injection hv with hA _ _
    refine ⟨⟨g, 0, none⟩, hA, (Array.getElem?_eq_some_iff.1 hg).1, ?_⟩
    rw [ad8_zero]
    have e1 : (cur.toList.take (L.length * 1))[j]? = some (.map L[j].1) := by
      rw [h4, List.getElem?_map, List.getElem?_eq_getElem hj]
      rfl
    rw [List.getElem?_take_of_lt (by omega)] at e1
    have e2 : cur[j]? = some (.map L[j].1) := by simpa using e1
    simp [World.cell?, hg, e2]
theorem alloc_cell8 {w w1 : World} {q i : Nat} {v : Value} (hq : q < w.heap.size) (hB : Below w.heap.size w w1) (h : w.cell? ⟨q, i, none⟩ = some v) : ∀ o, (w1.alloc o).cell? ⟨q, i, none⟩ = some v := fun o => ((hB.alloc hB.size o).cell (p := ⟨q, i, none⟩) hq).trans h
theorem grown_q5 {w w9 : World} {q n c : Nat} {A : Option Addr} {o o' : Obj} (h : (w.alloc o).grownBy w9 (Value.ownBlock (.slice A n c))) (hq : w.heap[q]? = some o') (hr : ∀ r, Value.ownBlock (.slice A n c) = some r → r ≠ q) : w9.heap[q]? = some o' := by
  have hqlt : q < w.heap.size := (Array.getElem?_eq_some_iff.1 hq).1
  refine (h.block q (by simp; omega) (fun e => hr q e.symm rfl)).trans ?_
  exact (Below.heap_alloc w o q hqlt).trans hq
theorem alloc_cell9 {w : World} {q : Nat} {v0 v1 : Value} {t : TypeId} (h : w.heap[q]? = some (.cells #[v0, v1] t (0, 0))) : ∀ o, (w.alloc o).cell? ⟨q, 1, none⟩ = some v1 := fun o => cell_of2 ((Below.heap_alloc w o q (Array.getElem?_eq_some_iff.1 h).1).trans h)
/-- How the copy is, behind k levels. -/
structure CopyAt (w : World) (cq : Nat) (pc : Option Nat) (top : List Pr) (L : List (Option Nat × List Pr)) (k : Nat) (A' : Option Addr) (c' : Nat) (Lk : List (Option Nat × List Pr)) (S' : Nat → Prop) (wr : World) : Prop where
  at_ : BufAt wr cq S' pc top A' c' Lk
  rows : Lk.map Prod.snd = (L.take k).map Prod.snd
  len : Lk.length = k
  new : ∀ b, S' b → w.heap.size ≤ b
  low : Below w.heap.size w wr
theorem CopyAt.next {w : World} {q : Nat} {S : Nat → Prop} {p0 : Option Nat} {top : List Pr} {A : Option Addr} {c : Nat} {L : List (Option Nat × List Pr)} (hb : BufAt w q S p0 top A c L) {cq : Nat} {pc : Option Nat} {k : Nat} {A' : Option Addr} {c' : Nat} {Lk : List (Option Nat × List Pr)} {S' : Nat → Prop} {wr w5 w9 : World} (h : CopyAt w cq pc top L k A' c' Lk S' wr) (hk : k < L.length)
    {p' : Option Nat} (hp : ∀ b, p' = some b → b = wr.heap.size) (hpn : L[k].1 = none ↔ p' = none) (hl : LO w5 p' L[k].2.length (rowSays L[k].2)) (hB : Below wr.heap.size wr w5) {g cap : Nat} {o : Obj} (hown : w9.ownsRow 0 52 1 (.slice (some ⟨g, 0, none⟩) (Lk.length + 1) cap) (Lk.length + 1) (Lk.map (fun x => Value.map x.1) ++ [.map p'])) (hgrow : (w5.alloc o).grownBy w9 (Value.ownBlock (.slice A' Lk.length c'))) (hat : Value.ownBlock (.slice A' Lk.length c') = some g ∨ w5.heap.size ≤ g) (hgl : g < w9.heap.size) :
    CopyAt w cq pc top L (k + 1) (some ⟨g, 0, none⟩) cap (Lk ++ [(p', L[k].2)]) (fun i => S' i ∨ i = g ∨ p' = some i) (w9.setCell ⟨cq, 1, none⟩ (.slice (some ⟨g, 0, none⟩) (Lk.length + 1) cap)) := by
  have h5 : BufAt w5 cq S' pc top A' c' Lk := h.at_.frame (fun _ h => h) (fun b hb' => hB.block b (h.at_.lt b hb')) (fun b hb' => Nat.lt_of_lt_of_le (h.at_.lt b hb') hB.size)
  refine ⟨snoc_at h5 hl (fun b e hs => ?_) (hb.okL _ (List.getElem_mem hk)) ?_ hown hgrow hat hgl, ?_, ?_, fun b hS => ?_, ?_⟩
  · have := h.at_.lt b hs
    have := hp b e
    omega
  · rcases hb.fullL _ (List.getElem_mem hk) with h' | h'
    · exact .inl (hpn.1 h')
    · exact .inr h'
  · rw [List.map_append, h.rows, List.take_succ_eq_append_getElem hk, List.map_append]
    rfl
  · simp [h.len]
  · rcases hS with hS | rfl | hS
    · exact h.new b hS
    · have hz := h.low.size
      have hz5 := hB.size
      rcases hat with h' | h'
      · exact h.new _ (h5.own_block _ h').1
      · omega
    · have := hp b hS
      have := h.low.size
      omega
  · have hz := h.low.size
    have hcq := h.new cq h.at_.own
    refine (h.low.trans ((hB.mono hz).trans (((Below.refl w.heap.size w5).alloc (by have := hB.size; omega) o).grown hgrow (by have := hB.size; simp; omega) (fun j e => h.new j (h5.own_block j e).1)))).setCell (p := ⟨cq, 1, none⟩) hcq _
set_option maxRecDepth 100000 in
set_option maxHeartbeats 4000000 in
theorem copy_at (q : Nat) (S : Nat → Prop) (p0 : Option Nat) (top : List Pr) (A : Option Addr) (c : Nat) (L : List (Option Nat × List Pr)) (w : World) (hb : BufAt w q S p0 top A c L) (hL : L.length ≤ 100000) :
    Calls Try.prog 11 #[.pointer (some ⟨q, 0, none⟩)] w fun e w' => ∃ cq S' pc A' c' Lk, e = .returned (.pointer (some ⟨cq, 0, none⟩)) ∧ CopyAt w cq pc top L L.length A' c' Lk S' w' := by
  obtain ⟨c0, c1, f0, f1⟩ := hb.c0
  have HB := Lib.hid hb
  have hcl := clone_any p0 top.length (rowSays top) w hb.top_
  have hq := hb.lt q hb.own
  clear hb
  go_enter Try.func11, Try.ntmps11
  go_wp2_with (go_at_call 30; refine hcl.mono ?_; rintro e w1 ⟨pc, rfl, hp1, hpn, hlo, hB1⟩; have d1 := alloc_cell8 hq hB1 c1)
  have hz1 := hB1.size
  have hC0 : CopyAt w w1.heap.size pc top L 0 none 0 [] (fun i => i = w1.heap.size ∨ pc = some i) (w1.alloc (.cells #[.map pc, .slice none 0 0] 55)) := by
    refine ⟨?_, rfl, rfl, fun b hS => ?_, hB1.alloc hz1 _⟩
    · exact {
        own := .inl rfl
        obj := World.alloc_heap_new w1 _
        row := World.ownsRow_nil _ _ _ _
        rowS := fun p e => by cases e
        top_ := hlo.of_block fun b e => Below.heap_alloc w1 _ b (hlo.lt b e)
        lev := by simp
        topS := fun b e => .inr e
        levS := by simp
        apart := by simp
        full := by
          rcases HB.out.full with h | h
          · exact .inl (hpn.1 h)
          · exact .inr h
        fullL := by simp
        okT := HB.out.okT
        okL := by simp
        lt := fun b hS => by
          simp
          rcases hS with rfl | hS
          · omega
          · have := hlo.lt b hS; omega }
    · rcases hS with rfl | hS
      · exact hz1
      · rw [hp1 b hS]; exact Nat.le_refl _
  obtain ⟨cq, hcq⟩ : ∃ cq, cq = w1.heap.size := ⟨_, rfl⟩
  rw [← hcq] at hC0 ⊢
  have HC := Lib.hid hC0
  obtain ⟨W2, hW2⟩ : ∃ W2, W2 = w1.alloc (.cells #[.map pc, .slice none 0 0] 55) := ⟨_, rfl⟩
  rw [← hW2] at HC ⊢
  clear hC0 hcq hW2 hlo hp1 hpn hB1 hz1 d1 hcl c0 c1 f0 f1
  have hLi : (L.length : Int) ≤ 100000 := by omega
  go_loopw [5, 20] (fun _ i wr => ∃ (k : Nat) (A' : Option Addr) (c' : Nat) (Lk : List (Option Nat × List Pr)) (S' : Nat → Prop), k ≤ L.length ∧ i = .int .i64 k ∧ Hid (CopyAt w cq pc top L k A' c' Lk S' wr)) (fun _ i _ => L.length - (intOf i).toNat)
  case atStart => exact ⟨0, none, 0, [], _, Nat.zero_le _, rfl, HC⟩
  case round =>
    obtain ⟨k, A', c', Lk, S', hk, rfl, hC⟩ := hrel
    by_cases hlt : k < L.length
    · obtain ⟨p, rfl, mb, cp⟩ := HB.out.cell_row k hlt
      have cp1 : wr.cell? (p.add k) = some (.map L[k].1) := (hC.out.low.cell (by rw [ad8_block]; exact mb)).trans cp
      have hlo : LO wr L[k].1 L[k].2.length (rowSays L[k].2) := (HB.out.lev _ (List.getElem_mem hlt)).of_block fun b e => hC.out.low.block b ((HB.out.lev _ (List.getElem_mem hlt)).lt b e)
      have i1 : (0 : Int) ≤ (k : Int) := by omega
      have i2 : (k : Int) < (L.length : Int) := by omega
      have i3 : (k : Int) ≤ 100000 := by omega
      obtain ⟨e0, e1, g0, g1⟩ := hC.out.at_.c0
      have hcl := clone_any L[k].1 L[k].2.length (rowSays L[k].2) wr.drew (hlo.of_block fun b e => rfl)
      have OWN := Lib.hid hC.out.at_.row
      have hlk : Lk.length ≤ 1000000 := by have := hC.out.len; omega
      obtain ⟨pk, hpk⟩ : ∃ pk, pk = L[k].1 := ⟨_, rfl⟩
      have HPK : Hid (pk = L[k].1) := hpk
      rw [← hpk] at cp1 hcl
      clear hpk hlo cp mb
      have HOK : Hid (∀ w5, Below wr.drew.heap.size wr.drew w5 → w5.heap[cq]? = some (.cells #[.map pc, .slice A' Lk.length c'] 55 (0, 0)) ∧ w5.ownsRow 0 52 1 (.slice A' Lk.length c') Lk.length (Lk.map fun x => Value.map x.1)) := fun w5 h5 =>
        ⟨(h5.block _ (hC.out.at_.lt cq hC.out.at_.own)).trans hC.out.at_.obj, ownsRow_of_block OWN.out fun p e => h5.block _ (hC.out.at_.lt _ (hC.out.at_.rowS p e))⟩
      have HR : Hid (∀ r, Value.ownBlock (.slice A' Lk.length c') = some r → r ≠ cq ∧ r < wr.heap.size) := fun r e => ⟨(hC.out.at_.own_block r e).2.1, hC.out.at_.lt r (hC.out.at_.own_block r e).1⟩
      have HCQ : Hid (cq < wr.heap.size) := hC.out.at_.lt cq hC.out.at_.own
      go_wp2_with fail
      go_region_law
        (first
          | (refine append_lvl_step (ops := _) (K := _) (Q := _) (E := _) (wx := w5) (v := .map pn) (HOK.out w5 h5B).2 hlk rfl (.tmp 28) (.tmp 31) rfl rfl rfl rfl ?_
             intro gg cap w9 hown hgrow hat hgl; have hq9 := grown_q5 hgrow (HOK.out w5 h5B).1 (fun r e => (HR.out r e).1); have e9 := cell_of2 hq9; have f9 := frozen_of2 hq9)
          | (rw [if_pos (by rfl)]; go_simp; refine hcl.mono ?_; rintro _ w5 ⟨pn, rfl, h51, h52, h53, h5B⟩; have e5 := cell_of2 (HOK.out w5 h5B).1; have e6 := alloc_cell9 (HOK.out w5 h5B).1)
          | fail)
      all_goals
        have HNX := Lib.hid (CopyAt.next HB.out hC.out hlt h51 (by rw [← HPK.out]; exact h52) h53 ((Below.refl _ wr).drew.trans h5B) hown hgrow (hat.imp id fun h => by rw [h]; exact Nat.le_succ _) hgl)
        clear hown hgrow hat hgl h51 h52 h53 h5B e5 e6 hq9 e9 f9 hcl
        go_wp2_with fail
        go_roundw
        case rel => exact ⟨k + 1, _, _, _, _, by omega, by go_num, HNX⟩
        case measure => simp [intOf]; omega
    · obtain rfl : k = L.length := by omega
      go_wp2_with fail
      go_ret
      exact ⟨cq, S', pc, A', c', Lk, rfl, hC.out⟩
/-- Copy: one that goes its own way. -/
theorem copy_any (q : Nat) (S : Nat → Prop) (T : List (List Pr)) (w : World) (h : RB w q S T) (hT : T.length ≤ 100000) :
    Calls Try.prog 11 #[.pointer (some ⟨q, 0, none⟩)] w fun e w' => ∃ cq S', e = .returned (.pointer (some ⟨cq, 0, none⟩)) ∧ RB w' cq S' T ∧ (∀ b, S' b → w.heap.size ≤ b) ∧ Below w.heap.size w w' := by
  obtain ⟨p0, top, A, c, L, hb, rfl⟩ := h
  refine (copy_at q S p0 top A c L w hb (by simp at hT; omega)).mono ?_
  rintro e w' ⟨cq, S', pc, A', c', Lk, he, hC⟩
  refine ⟨cq, S', he, ⟨pc, top, A', c', Lk, hC.at_, ?_⟩, hC.new, hC.low⟩
  rw [hC.rows, List.take_length]
end Go.Proofs.Ytmjcipojidimgaa
