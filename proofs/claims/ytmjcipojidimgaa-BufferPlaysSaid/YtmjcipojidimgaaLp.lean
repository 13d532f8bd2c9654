/-
  CONTRACTS OF PACKAGE buffer's Push, Depth and Drop: each changes just what the buffer owns, and makes new memory. Conditions: as they stand.
-/
import Derived.Test.YtmjcipojidimgaaLo
namespace Go.Proofs.Ytmjcipojidimgaa
set_option maxRecDepth 100000
open Go.RowKit Go.Maps Go.Shelf Go.Sort
set_option linter.unusedVariables false
theorem lvl_info : (Try.prog.info? 52).map (fun i => (i.zero, i.size, i.bytes)) = some (some (.map none), 1, 8) := by kernel_rfl
theorem append_lvl_step {ops : Array Oper} {o : Oper} {a : Act} {K : Act → World → Prop} {Q : Exit → Act → World → Prop} {E : Prop} {wx : World} {k : Nat} {sv v : Value} {xs : List Value}
    (own : wx.ownsRow 0 52 1 sv k xs) (hk : k ≤ 1000000) (hgd : o.guard = none) (s x : Operand) (ho : o.op = .call { callee := .builtin .append, args := #[s, x], argTypes := #[53, 53] }) (hs : a.eval s = sv) (hx : a.eval x = .slice (some ⟨wx.heap.size, 0, none⟩) 1 1) (hv : v.oneCell' = true)
    (h : ∀ g cap w', w'.ownsRow 0 52 1 (.slice (some ⟨g, 0, none⟩) (k + 1) cap) (k + 1) (xs ++ [v]) → (wx.alloc (.cells #[v] 52)).grownBy w' sv.ownBlock → (sv.ownBlock = some g ∨ g = wx.heap.size + 1) → g < w'.heap.size → K (a.put o.dst (.slice (some ⟨g, 0, none⟩) (k + 1) cap)) w') :
    if Region.wanted o (yielded ops a.tmps) = true then Oper.wp Try.prog o a (wx.alloc (.cells #[v] 52)) K Q else E := by
  obtain ⟨i0, hi0, hz0, hz1, hz2⟩ := info_parts lvl_info
  have zz : (wx.alloc (.cells #[v] 52)).heap.size = wx.heap.size + 1 := by simp
  exact step_append_lies _ hgd s x _ ho 0 52 i0 _ 1 8 Try.underlying53 hi0 hz0 hz1 hz2 rfl (by omega) sv k xs hs (own.alloc _) ⟨wx.heap.size, 0, none⟩ 1 1 [v] hx rfl (World.news_of_block (cs := #[v]) (t := 52) (fr := (0, 0)) (World.alloc_heap_new wx _)) (by intro u hu; simp at hu; rw [hu]; exact hv) (by omega) (by unfold maxLen; omega) (by omega) (by rw [zz]; omega) (wx.heap.size + 1) zz h
section
variable {w : World} {q : Nat} {S : Nat → Prop} {p0 : Option Nat} {top : List Pr} {A : Option Addr} {c : Nat} {L : List (Option Nat × List Pr)}
theorem BufAt.map_ne (h : BufAt w q S p0 top A c L) {p : Option Nat} {n : Nat} {f : Int → Option Int} (hl : LO w p n f) : ∀ i, p = some i → i ≠ q := fun i e hiq => by
  rcases hl with ⟨h', _⟩ | ⟨i', h', hlv⟩
  · rw [h'] at e; cases e
  · rw [h'] at e
    injection e with e
    subst e
    obtain ⟨es, cl, hm⟩ := hlv.is_map
    rw [hiq, h.obj] at hm
    cases hm
theorem BufAt.row_ne (h : BufAt w q S p0 top A c L) : ∀ p, A = some p → p.block ≠ q ∧ ∀ {p' : Option Nat} {n : Nat} {f : Int → Option Int}, LO w p' n f → p' ≠ some p.block := fun p e => by
  rcases h.row.2 with ⟨h', _⟩ | ⟨g, cap, cur, h', _, hg, _⟩
  · injection h' with h'; rw [h'] at e; cases e
  · injection h' with h'
    rw [h'] at e
    injection e with e
    subst e
    refine ⟨fun e => ?_, fun {p' n f} hl e => ?_⟩
    · have e : g = q := e
      rw [e, h.obj] at hg
      injection hg with hg
      injection hg with _ h2
      exact absurd h2 (by decide)
    · rcases hl with ⟨h4, _⟩ | ⟨b', h4, h5⟩
      · rw [h4] at e; cases e
      · rw [h4] at e
        injection e with e
        obtain ⟨es, cl, h6⟩ := h5.is_map
        have e : b' = g := e
        rw [e, hg] at h6
        cases h6
theorem BufAt.own_block (h : BufAt w q S p0 top A c L) : ∀ r, Value.ownBlock (.slice A L.length c) = some r → S r ∧ r ≠ q ∧ ∀ {p' : Option Nat} {n : Nat} {f : Int → Option Int}, LO w p' n f → p' ≠ some r := fun r e => by
  cases A with
  | none => cases e
  | some p =>
    injection e with e
    subst e
    exact ⟨h.rowS p rfl, h.row_ne p rfl⟩
end
theorem grown_q {w w9 : World} {q n c : Nat} {A : Option Addr} {o o' : Obj} (h : (w.drew.alloc o).grownBy w9 (Value.ownBlock (.slice A n c))) (hq : w.heap[q]? = some o') (hr : ∀ r, Value.ownBlock (.slice A n c) = some r → r ≠ q) : w9.heap[q]? = some o' := by
  have hqlt : q < w.heap.size := (Array.getElem?_eq_some_iff.1 hq).1
  refine (h.block q (by simp; show q < w.heap.size + 1; omega) (fun e => hr q e.symm rfl)).trans ?_
  exact (Below.heap_alloc w.drew o q hqlt).trans hq
theorem cell_of2 {w : World} {q : Nat} {v0 v1 : Value} {t : TypeId} (h : w.heap[q]? = some (.cells #[v0, v1] t (0, 0))) : w.cell? ⟨q, 1, none⟩ = some v1 := by simp [World.cell?, h]
theorem frozen_of2 {w : World} {q : Nat} {v0 v1 : Value} {t : TypeId} (h : w.heap[q]? = some (.cells #[v0, v1] t (0, 0))) : w.frozen? ⟨q, 1, none⟩ = false := by simp [World.frozen?, h]
set_option maxHeartbeats 2000000 in
theorem push_low (q n : Nat) (p0 : Option Nat) (A : Option Addr) (c : Nat) (xs : List Value) (w : World) (hq : w.heap[q]? = some (.cells #[.map p0, .slice A n c] 55 (0, 0))) (own : w.ownsRow 0 52 1 (.slice A n c) n xs) (hn : n ≤ 1000000) (hr : ∀ r, Value.ownBlock (.slice A n c) = some r → r ≠ q) :
    Calls Try.prog 15 #[.pointer (some ⟨q, 0, none⟩)] w fun e w' => e = .returned (.int .i64 0) ∧ ∃ g cap, w'.heap[q]? = some (.cells #[.map none, .slice (some ⟨g, 0, none⟩) (n + 1) cap] 55 (0, 0)) ∧ w'.ownsRow 0 52 1 (.slice (some ⟨g, 0, none⟩) (n + 1) cap) (n + 1) (xs ++ [.map p0]) ∧ g ≠ q ∧
      (Value.ownBlock (.slice A n c) = some g ∨ w.heap.size ≤ g) ∧ g < w'.heap.size ∧ Fro (fun i => i = q ∨ Value.ownBlock (.slice A n c) = some i) w w' := by
  have hqlt : q < w.heap.size := (Array.getElem?_eq_some_iff.1 hq).1
  have c0 : w.cell? ⟨q, 0, none⟩ = some (.map p0) := by simp [World.cell?, hq]
  have c1 : w.cell? ⟨q, 1, none⟩ = some (.slice A n c) := by simp [World.cell?, hq]
  have f0 : w.frozen? ⟨q, 0, none⟩ = false := by simp [World.frozen?, hq]
  have f1 : w.frozen? ⟨q, 1, none⟩ = false := by simp [World.frozen?, hq]
  have OWN := Lib.hid own
  have HR := Lib.hid hr
  have HQ := Lib.hid hq
  clear own hr hq
  go_enter Try.func15, Try.ntmps15
  go_wp2_with fail
  go_region_law
    (first
      | (refine append_lvl_step (ops := _) (K := _) (Q := _) (E := _) (wx := w.drew) (v := .map p0) OWN.out.drew hn rfl (.tmp 9) (.tmp 14) rfl rfl rfl rfl ?_
         intro gg cap w9 hown hgrow hat hgl; have hq9 := grown_q hgrow HQ.out HR.out; have e9 := cell_of2 hq9; have f9 := frozen_of2 hq9)
      | fail)
  all_goals
    have hq10 := setBlock8 hq9 1 (.slice (some ⟨gg, 0, none⟩) (n + 1) cap)
    have hq11 := setBlock8 hq10 0 (.map none)
    have hgq : gg ≠ q := by
      rcases hat with h | h
      · exact HR.out gg h
      · have h : gg = w.heap.size + 1 := h
        omega
    have e10 : (w9.setCell ⟨q, 1, none⟩ (.slice (some ⟨gg, 0, none⟩) (n + 1) cap)).cell? ⟨q, 0, none⟩ = some (.map p0) := by simp [World.cell?, hq10]
    have f10 : (w9.setCell ⟨q, 1, none⟩ (.slice (some ⟨gg, 0, none⟩) (n + 1) cap)).frozen? ⟨q, 0, none⟩ = false := by simp [World.frozen?, hq10]
    have hb9 : ∀ i, i ≠ q → ((w9.setCell ⟨q, 1, none⟩ (.slice (some ⟨gg, 0, none⟩) (n + 1) cap)).setCell ⟨q, 0, none⟩ (.map none)).heap[i]? = w9.heap[i]? := fun i hi => (Below.heap_setCell _ ⟨q, 0, none⟩ _ i hi).trans (Below.heap_setCell _ ⟨q, 1, none⟩ _ i hi)
    have own9 := ownsRow_of_block (w' := (w9.setCell ⟨q, 1, none⟩ (.slice (some ⟨gg, 0, none⟩) (n + 1) cap)).setCell ⟨q, 0, none⟩ (.map none)) hown (fun p e => by injection e with e; subst e; exact hb9 gg hgq)
    have hF : Fro (fun i => i = q ∨ Value.ownBlock (.slice A n c) = some i) w ((w9.setCell ⟨q, 1, none⟩ (.slice (some ⟨gg, 0, none⟩) (n + 1) cap)).setCell ⟨q, 0, none⟩ (.map none)) := by
      have h1 : Fro (fun i => Value.ownBlock (.slice A n c) = some i) w w9 := (Fro.of_below (S := fun i => Value.ownBlock (.slice A n c) = some i) (B := w.heap.size) ((Below.refl _ w).drew.alloc (Nat.le_refl _) _) (Nat.le_refl _)).trans (Fro.of_grown (S := fun i => Value.ownBlock (.slice A n c) = some i) hgrow (fun r e => e)) (fun i h => .inl h)
      have h2 : Fro (fun i => i = q) w9 ((w9.setCell ⟨q, 1, none⟩ (.slice (some ⟨gg, 0, none⟩) (n + 1) cap)).setCell ⟨q, 0, none⟩ (.map none)) := (Fro.set (S := fun i => i = q) ⟨q, 1, none⟩ _ rfl).trans (Fro.set (S := fun i => i = q) ⟨q, 0, none⟩ _ rfl) (fun i h => .inl h)
      exact (h1.weak (S' := fun i => i = q ∨ Value.ownBlock (.slice A n c) = some i) (fun i h _ => .inr h)).trans h2 (fun i h => .inl (.inl h))
    have hz : ((w9.setCell ⟨q, 1, none⟩ (.slice (some ⟨gg, 0, none⟩) (n + 1) cap)).setCell ⟨q, 0, none⟩ (.map none)).heap.size = w9.heap.size := by simp [World.setCell]
    have hat' : Value.ownBlock (.slice A n c) = some gg ∨ w.heap.size ≤ gg := hat.imp id (fun h => by have h : gg = w.heap.size + 1 := h; omega)
    clear hown hgrow hat hq10 e9 f9
    go_wp2_with fail
    go_ret
    exact ⟨rfl, gg, cap, hq11, own9, hgq, hat', by rw [hz]; exact hgl, hF⟩
/-- Push: one level more. -/
theorem push_any (q : Nat) (S : Nat → Prop) (T : List (List Pr)) (w : World) (h : RB w q S T) (hT : T.length ≤ 100000) :
    Calls Try.prog 15 #[.pointer (some ⟨q, 0, none⟩)] w fun e w' => e = .returned (.int .i64 0) ∧ ∃ S', RB w' q S' ([] :: T) ∧ (∀ b, S' b → S b ∨ w.heap.size ≤ b) ∧ Fro S w w' := by
  obtain ⟨p0, top, A, c, L, hb, rfl⟩ := h
  simp at hT
  refine (push_low q L.length p0 A c _ w hb.obj hb.row (by omega) (fun r e => (hb.own_block r e).2.1)).mono ?_
  rintro e w' ⟨he, g, cap, hq', hrow, hgq, hg, hgl, hF⟩
  have hFS : Fro S w w' := hF.weak fun i hi hlt => by
    rcases hi with rfl | hi
    · exact hb.own
    · exact (hb.own_block i hi).1
  have hm : ∀ {p : Option Nat} {n : Nat} {f : Int → Option Int}, LO w p n f → LO w' p n f := fun {p n f} hl => hl.of_block fun i e => hF.block i (hl.lt i e) (fun h => by
    rcases h with h | h
    · exact hb.map_ne hl i e h
    · exact (hb.own_block i h).2.2 hl e)
  refine ⟨he, fun i => S i ∨ i = g, ⟨none, [], some ⟨g, 0, none⟩, cap, L ++ [(p0, top)], ?_, by simp⟩, fun i hi => ?_, hFS⟩
  · exact {
      own := .inl hb.own
      obj := by rw [hq']; simp
      row := by
        rw [List.map_append, List.length_append]
        exact hrow
      rowS := fun p e => by injection e with e; subst e; exact .inr rfl
      top_ := .inl ⟨rfl, fun v _ => rfl⟩
      lev := fun x hx => by
        rcases List.mem_append.1 hx with h | h
        · exact hm (hb.lev x h)
        · rw [List.mem_singleton.1 h]; exact hm hb.top_
      topS := fun b e => by cases e
      levS := fun x hx b e => by
        rcases List.mem_append.1 hx with h | h
        · exact .inl (hb.levS x h b e)
        · rw [List.mem_singleton.1 h] at e; exact .inl (hb.topS b e)
      apart := by
        obtain ⟨h1, h2⟩ := List.pairwise_cons.1 hb.apart
        rw [List.map_append]
        refine List.pairwise_cons.2 ⟨fun x _ => .inl rfl, List.pairwise_append.2 ⟨h2, by simp, fun a ha b hb' => ?_⟩⟩
        simp at hb'
        subst hb'
        rcases h1 a ha with e | e
        · by_cases ha' : a = none
          · exact .inl ha'
          · exact .inr fun e2 => ha' (e2.trans e)
        · exact .inr fun e2 => e e2.symm
      full := .inl rfl
      fullL := fun x hx => by
        rcases List.mem_append.1 hx with h | h
        · exact hb.fullL x h
        · rw [List.mem_singleton.1 h]; exact hb.full
      okT := by simp
      okL := fun x hx => by
        rcases List.mem_append.1 hx with h | h
        · exact hb.okL x h
        · rw [List.mem_singleton.1 h]; exact hb.okT
      lt := fun i hi => by
        rcases hi with hi | rfl
        · exact Nat.lt_of_lt_of_le (hb.lt i hi) hF.size
        · exact hgl }
  · rcases hi with hi | rfl
    · exact .inl hi
    · exact hg.imp (fun h => (hb.own_block i h).1) id
set_option maxHeartbeats 1000000 in
theorem depth_any (q : Nat) (S : Nat → Prop) (T : List (List Pr)) (w : World) (h : RB w q S T) (hT : T.length ≤ 100000) :
    Calls Try.prog 24 #[.pointer (some ⟨q, 0, none⟩)] w fun e w' => e = .returned (.int .i64 T.length) ∧ w' = w := by
  obtain ⟨p0, top, A, c, L, hb, rfl⟩ := h
  obtain ⟨_, c1, _, _⟩ := hb.c0
  have e1 : ((top :: (L.map Prod.snd).reverse).length : Int) = (L.length : Int) + 1 := by simp
  have hl : (L.length : Int) ≤ 1000000 := by simp at hT; omega
  rw [e1]
  clear e1 hT hb
  have i0 : (0 : Int) ≤ (L.length : Int) := by omega
  go_enter Try.func24, Try.ntmps24
  go_wp2_with fail
  go_ret
  exact ⟨by first | rfl | trivial, rfl⟩
theorem del_any (g n c : Nat) (ps : List (Option Nat)) (pl : Option Nat) (hn : ps.length = n) (hn2 : n ≤ 1000000) (w : World) (hrow : w.ownsRow 0 52 1 (.slice (some ⟨g, 0, none⟩) (n + 1) c) (n + 1) ((ps ++ [pl]).map Value.map)) :
    Calls Try.prog 31 #[.slice (some ⟨g, 0, none⟩) (n + 1) c, .int .i64 n, .int .i64 (n + 1)] w fun e w' => e = .returned (.slice (some ⟨g, 0, none⟩) n c) ∧ w'.ownsRow 0 52 1 (.slice (some ⟨g, 0, none⟩) n c) n (ps.map Value.map) ∧ w.grownBy w' (some g) := by
  rcases hrow.2 with ⟨h, _⟩ | ⟨g', cap, cur, hv, _, hg, h1, h2, h3, h4⟩
  · injection h with h; cases h
  · injection hv with hA _ hc
    injection hA with hA
    injection hA with hA
    subst hA
    subst hc
    obtain ⟨i0, hi0, hz0, hz1, hz2⟩ := info_parts lvl_info
    have hd : (ps ++ [pl]).toArray.size = n + 1 := by simp [hn]
    have hcur : ∀ j (hj : j < n + 1), cur[j]? = some (.map ((ps ++ [pl]).toArray[j]!)) := fun j hj => by
      have e1 : (cur.toList.take ((n + 1) * 1))[j]? = ((ps ++ [pl]).map Value.map)[j]? := by rw [h4]
      rw [List.getElem?_take_of_lt (by omega), List.getElem?_map] at e1
      rw [← Array.getElem?_toList, e1, getElem!_pos _ j (by rw [hd]; exact hj)]
      have hj2 : j < (ps ++ [pl]).length := by simp; omega
      rw [List.getElem?_eq_getElem hj2]
      rfl
    have hH : Holds Value.map w g 0 (ps ++ [pl]).toArray := fun j hj => by
      rw [hd] at hj
      have := hcur j hj
      simp [World.cell?, World.frozen?, hg, this]
    have hc := AnyE.slices_Delete delL Value.map (fun x => rfl) none Try.zeroValue52 i0 hi0 hz1 g 0 c n (n + 1) (ps ++ [pl]).toArray w hH (by rw [hd]; exact h1) (by unfold maxLen at h2; omega) (by omega) (by rw [hd]; omega)
    rw [hd] at hc
    have e5 : n + 1 - (n + 1 - n) = n := by omega
    have e6 : ((n + 1 : Nat) : Int) = (n : Int) + 1 := by omega
    rw [e5, e6] at hc
    refine Calls.mono hc ?_
    rintro e w' ⟨he, qq, rfl⟩
    have e7 : (ps ++ [pl]).toArray.toList.take n ++ (ps ++ [pl]).toArray.toList.drop (n + 1) ++ List.replicate (n + 1 - n) none = ps ++ [none] := by
      have e8 : n + 1 - n = 1 := by omega
      rw [e8, ← hn]
      simp
    rw [e7]
    refine ⟨he, ⟨by simp [hn], .inr ⟨g, c, putCells Value.map 0 (ps ++ [none]).toArray cur, rfl, Nat.zero_le _, ?_, by omega, h2, by simp [putCells, h3], ?_⟩⟩, ⟨rfl, rfl, rfl, by simp [putRow, mapBlock, Sort.ahead], fun k hk hne => ?_⟩⟩
    · simp [putRow, mapBlock, Sort.ahead, Array.getElem?_modify, hg, onCells]
    · apply List.ext_getElem?
      intro j
      by_cases hj : j < n
      · rw [List.getElem?_take_of_lt (by omega), Array.getElem?_toList]
        simp [putCells, show j < ps.length by omega, show j < cur.size by omega, show j < ps.length + 1 by omega]
      · rw [List.getElem?_take_eq_none (by omega), List.getElem?_eq_none (by simp; omega)]
    · have : g ≠ k := fun e => hne (by rw [e])
      simp [putRow, mapBlock, Sort.ahead, Array.getElem?_modify, this]
end Go.Proofs.Ytmjcipojidimgaa
