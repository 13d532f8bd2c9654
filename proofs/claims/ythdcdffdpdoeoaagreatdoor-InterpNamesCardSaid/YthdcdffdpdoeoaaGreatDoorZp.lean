/-
  SEVERAL TEXTS IN ONE (a claim has sixty files at most): Lp, Lq, Ls: the head of each stands ahead of it. No condition but theirs.
-/
import Derived.Test.YthdcdffdpdoeoaaGreatDoorZm
/-
  CONTRACTS OF PACKAGE buffer's Push, Depth and Drop: each changes just what the buffer owns, and makes new memory. Conditions: as they stand.
-/
namespace Go.Proofs.YthdcdffdpdoeoaaGreatDoor
set_option maxRecDepth 100000
open Go.RowKit Go.Maps Go.Shelf Go.Sort
set_option linter.unusedVariables false
theorem lvl_info : (Tryz.prog.info? 89).map (fun i => (i.zero, i.size, i.bytes)) = some (some (.map none), 1, 8) := by kernel_rfl
theorem append_lvl_step {ops : Array Oper} {o : Oper} {a : Act} {K : Act → World → Prop} {Q : Exit → Act → World → Prop} {E : Prop} {wx : World} {k : Nat} {sv v : Value} {xs : List Value}
    (own : wx.ownsRow 0 89 1 sv k xs) (hk : k ≤ 1000000) (hgd : o.guard = none) (s x : Operand) (ho : o.op = .call { callee := .builtin .append, args := #[s, x], argTypes := #[104, 104] }) (hs : a.eval s = sv) (hx : a.eval x = .slice (some ⟨wx.heap.size, 0, none⟩) 1 1) (hv : v.oneCell' = true)
    (h : ∀ g cap w', w'.ownsRow 0 89 1 (.slice (some ⟨g, 0, none⟩) (k + 1) cap) (k + 1) (xs ++ [v]) → (wx.alloc (.cells #[v] 89)).grownBy w' sv.ownBlock → (sv.ownBlock = some g ∨ g = wx.heap.size + 1) → g < w'.heap.size → K (a.put o.dst (.slice (some ⟨g, 0, none⟩) (k + 1) cap)) w') :
    if Region.wanted o (yielded ops a.tmps) = true then Oper.wp Tryz.prog o a (wx.alloc (.cells #[v] 89)) K Q else E := by
  obtain ⟨i0, hi0, hz0, hz1, hz2⟩ := info_parts lvl_info
  have zz : (wx.alloc (.cells #[v] 89)).heap.size = wx.heap.size + 1 := by simp
  exact step_append_lies _ hgd s x _ ho 0 89 i0 _ 1 8 Tryz.underlying104 hi0 hz0 hz1 hz2 rfl (by omega) sv k xs hs (own.alloc _) ⟨wx.heap.size, 0, none⟩ 1 1 [v] hx rfl (World.news_of_block (cs := #[v]) (t := 89) (fr := (0, 0)) (World.alloc_heap_new wx _)) (by intro u hu; simp at hu; rw [hu]; exact hv) (by omega) (by unfold maxLen; omega) (by omega) (by rw [zz]; omega) (wx.heap.size + 1) zz h
section
variable {w : World} {q : Nat} {S : Nat → Prop} {p0 : Option Nat} {top : List Pr} {A : Option Addr} {c : Nat} {L : List (Option Nat × List Pr)}
theorem BufAt.map_ne (h : BufAt w q S p0 top A c L) {p : Option Nat} {n : Nat} {f : Int → Option Int} (hl : LO w p n f) : ∀ i, p = some i → i ≠ q := fun i e hiq => by
  rcases hl with ⟨h', _⟩ | ⟨i', h', hlv⟩
  · rw [h'] at e; cases e
  · rw [h'] at e
    injection e with e
    subst e
    obtain ⟨es, cl, hm⟩ := hlv.is_map
    rw [hiq, h.obj] at hm
    cases hm
theorem BufAt.row_ne (h : BufAt w q S p0 top A c L) : ∀ p, A = some p → p.block ≠ q ∧ ∀ {p' : Option Nat} {n : Nat} {f : Int → Option Int}, LO w p' n f → p' ≠ some p.block := fun p e => by
  rcases h.row.2 with ⟨h', _⟩ | ⟨g, cap, cur, h', _, hg, _⟩
  · injection h' with h'; rw [h'] at e; cases e
  · injection h' with h'
    rw [h'] at e
    injection e with e
    subst e
    refine ⟨fun e => ?_, fun {p' n f} hl e => ?_⟩
    · have e : g = q := e
      rw [e, h.obj] at hg
      injection hg with hg
      injection hg with _ h2
      exact absurd h2 (by decide)
    · rcases hl with ⟨h4, _⟩ | ⟨b', h4, h5⟩
      · rw [h4] at e; cases e
      · rw [h4] at e
        injection e with e
        obtain ⟨es, cl, h6⟩ := h5.is_map
        have e : b' = g := e
        rw [e, hg] at h6
        cases h6
theorem BufAt.own_block (h : BufAt w q S p0 top A c L) : ∀ r, Value.ownBlock (.slice A L.length c) = some r → S r ∧ r ≠ q ∧ ∀ {p' : Option Nat} {n : Nat} {f : Int → Option Int}, LO w p' n f → p' ≠ some r := fun r e => by
  cases A with
  | none => cases e
  | some p =>
    injection e with e
    subst e
    exact ⟨h.rowS p rfl, h.row_ne p rfl⟩
end
theorem grown_q {w w9 : World} {q n c : Nat} {A : Option Addr} {o o' : Obj} (h : (w.drew.alloc o).grownBy w9 (Value.ownBlock (.slice A n c))) (hq : w.heap[q]? = some o') (hr : ∀ r, Value.ownBlock (.slice A n c) = some r → r ≠ q) : w9.heap[q]? = some o' := by
  have hqlt : q < w.heap.size := (Array.getElem?_eq_some_iff.1 hq).1
  refine (h.block q (by simp; show q < w.heap.size + 1; omega) (fun e => hr q e.symm rfl)).trans ?_
  exact (Below.heap_alloc w.drew o q hqlt).trans hq
theorem cell_of2 {w : World} {q : Nat} {v0 v1 : Value} {t : TypeId} (h : w.heap[q]? = some (.cells #[v0, v1] t (0, 0))) : w.cell? ⟨q, 1, none⟩ = some v1 := by simp [World.cell?, h]
theorem frozen_of2 {w : World} {q : Nat} {v0 v1 : Value} {t : TypeId} (h : w.heap[q]? = some (.cells #[v0, v1] t (0, 0))) : w.frozen? ⟨q, 1, none⟩ = false := by simp [World.frozen?, h]
set_option maxHeartbeats 2000000 in
theorem push_low (q n : Nat) (p0 : Option Nat) (A : Option Addr) (c : Nat) (xs : List Value) (w : World) (hq : w.heap[q]? = some (.cells #[.map p0, .slice A n c] 106 (0, 0))) (own : w.ownsRow 0 89 1 (.slice A n c) n xs) (hn : n ≤ 1000000) (hr : ∀ r, Value.ownBlock (.slice A n c) = some r → r ≠ q) :
    Calls Tryz.prog 69 #[.pointer (some ⟨q, 0, none⟩)] w fun e w' => e = .returned (.int .i64 0) ∧ ∃ g cap, w'.heap[q]? = some (.cells #[.map none, .slice (some ⟨g, 0, none⟩) (n + 1) cap] 106 (0, 0)) ∧ w'.ownsRow 0 89 1 (.slice (some ⟨g, 0, none⟩) (n + 1) cap) (n + 1) (xs ++ [.map p0]) ∧ g ≠ q ∧
      (Value.ownBlock (.slice A n c) = some g ∨ w.heap.size ≤ g) ∧ g < w'.heap.size ∧ Fro (fun i => i = q ∨ Value.ownBlock (.slice A n c) = some i) w w' := by
  have hqlt : q < w.heap.size := (Array.getElem?_eq_some_iff.1 hq).1
  have c0 : w.cell? ⟨q, 0, none⟩ = some (.map p0) := by simp [World.cell?, hq]
  have c1 : w.cell? ⟨q, 1, none⟩ = some (.slice A n c) := by simp [World.cell?, hq]
  have f0 : w.frozen? ⟨q, 0, none⟩ = false := by simp [World.frozen?, hq]
  have f1 : w.frozen? ⟨q, 1, none⟩ = false := by simp [World.frozen?, hq]
  have OWN := Lib.hid own
  have HR := Lib.hid hr
  have HQ := Lib.hid hq
  clear own hr hq
  go_enter Tryz.func69, Tryz.ntmps69
  go_wp2_with fail
  go_region_law
    (first
      | (refine append_lvl_step (ops := _) (K := _) (Q := _) (E := _) (wx := w.drew) (v := .map p0) OWN.out.drew hn rfl (.tmp 9) (.tmp 14) rfl rfl rfl rfl ?_
         intro gg cap w9 hown hgrow hat hgl; have hq9 := grown_q hgrow HQ.out HR.out; have e9 := cell_of2 hq9; have f9 := frozen_of2 hq9)
      | fail)
  all_goals
    have hq10 := setBlock8 hq9 1 (.slice (some ⟨gg, 0, none⟩) (n + 1) cap)
    have hq11 := setBlock8 hq10 0 (.map none)
    have hgq : gg ≠ q := by
      rcases hat with h | h
      · exact HR.out gg h
      · have h : gg = w.heap.size + 1 := h
        omega
    have e10 : (w9.setCell ⟨q, 1, none⟩ (.slice (some ⟨gg, 0, none⟩) (n + 1) cap)).cell? ⟨q, 0, none⟩ = some (.map p0) := by simp [World.cell?, hq10]
    have f10 : (w9.setCell ⟨q, 1, none⟩ (.slice (some ⟨gg, 0, none⟩) (n + 1) cap)).frozen? ⟨q, 0, none⟩ = false := by simp [World.frozen?, hq10]
    have hb9 : ∀ i, i ≠ q → ((w9.setCell ⟨q, 1, none⟩ (.slice (some ⟨gg, 0, none⟩) (n + 1) cap)).setCell ⟨q, 0, none⟩ (.map none)).heap[i]? = w9.heap[i]? := fun i hi => (Below.heap_setCell _ ⟨q, 0, none⟩ _ i hi).trans (Below.heap_setCell _ ⟨q, 1, none⟩ _ i hi)
    have own9 := ownsRow_of_block (w' := (w9.setCell ⟨q, 1, none⟩ (.slice (some ⟨gg, 0, none⟩) (n + 1) cap)).setCell ⟨q, 0, none⟩ (.map none)) hown (fun p e => by injection e with e; subst e; exact hb9 gg hgq)
    have hF : Fro (fun i => i = q ∨ Value.ownBlock (.slice A n c) = some i) w ((w9.setCell ⟨q, 1, none⟩ (.slice (some ⟨gg, 0, none⟩) (n + 1) cap)).setCell ⟨q, 0, none⟩ (.map none)) := by
      have h1 : Fro (fun i => Value.ownBlock (.slice A n c) = some i) w w9 := (Fro.of_below (S := fun i => Value.ownBlock (.slice A n c) = some i) (B := w.heap.size) ((Below.refl _ w).drew.alloc (Nat.le_refl _) _) (Nat.le_refl _)).trans (Fro.of_grown (S := fun i => Value.ownBlock (.slice A n c) = some i) hgrow (fun r e => e)) (fun i h => .inl h)
      have h2 : Fro (fun i => i = q) w9 ((w9.setCell ⟨q, 1, none⟩ (.slice (some ⟨gg, 0, none⟩) (n + 1) cap)).setCell ⟨q, 0, none⟩ (.map none)) := (Fro.set (S := fun i => i = q) ⟨q, 1, none⟩ _ rfl).trans (Fro.set (S := fun i => i = q) ⟨q, 0, none⟩ _ rfl) (fun i h => .inl h)
      exact (h1.weak (S' := fun i => i = q ∨ Value.ownBlock (.slice A n c) = some i) (fun i h _ => .inr h)).trans h2 (fun i h => .inl (.inl h))
    have hz : ((w9.setCell ⟨q, 1, none⟩ (.slice (some ⟨gg, 0, none⟩) (n + 1) cap)).setCell ⟨q, 0, none⟩ (.map none)).heap.size = w9.heap.size := by simp [World.setCell]
    have hat' : Value.ownBlock (.slice A n c) = some gg ∨ w.heap.size ≤ gg := hat.imp id (fun h => by have h : gg = w.heap.size + 1 := h; omega)
    clear hown hgrow hat hq10 e9 f9
    go_wp2_with fail
    go_ret
    exact ⟨rfl, gg, cap, hq11, own9, hgq, hat', by rw [hz]; exact hgl, hF⟩
/-- Push: one level more. -/
theorem push_any (q : Nat) (S : Nat → Prop) (T : List (List Pr)) (w : World) (h : RB w q S T) (hT : T.length ≤ 100000) :
    Calls Tryz.prog 69 #[.pointer (some ⟨q, 0, none⟩)] w fun e w' => e = .returned (.int .i64 0) ∧ ∃ S', RB w' q S' ([] :: T) ∧ (∀ b, S' b → S b ∨ w.heap.size ≤ b) ∧ Fro S w w' := by
  obtain ⟨p0, top, A, c, L, hb, rfl⟩ := h
  simp at hT
  refine (push_low q L.length p0 A c _ w hb.obj hb.row (by omega) (fun r e => (hb.own_block r e).2.1)).mono ?_
  rintro e w' ⟨he, g, cap, hq', hrow, hgq, hg, hgl, hF⟩
  have hFS : Fro S w w' := hF.weak fun i hi hlt => by
    rcases hi with rfl | hi
    · exact hb.own
    · exact (hb.own_block i hi).1
  have hm : ∀ {p : Option Nat} {n : Nat} {f : Int → Option Int}, LO w p n f → LO w' p n f := fun {p n f} hl => hl.of_block fun i e => hF.block i (hl.lt i e) (fun h => by
    rcases h with h | h
    · exact hb.map_ne hl i e h
    · exact (hb.own_block i h).2.2 hl e)
  refine ⟨he, fun i => S i ∨ i = g, ⟨none, [], some ⟨g, 0, none⟩, cap, L ++ [(p0, top)], ?_, by simp⟩, fun i hi => ?_, hFS⟩
  · exact {
      own := .inl hb.own
      obj := by rw [hq']; simp
      row := by
        rw [List.map_append, List.length_append]
        exact hrow
      rowS := fun p e => by injection e with e; subst e; exact .inr rfl
      top_ := .inl ⟨rfl, fun v _ => rfl⟩
      lev := fun x hx => by
        rcases List.mem_append.1 hx with h | h
        · exact hm (hb.lev x h)
        · rw [List.mem_singleton.1 h]; exact hm hb.top_
      topS := fun b e => by cases e
      levS := fun x hx b e => by
        rcases List.mem_append.1 hx with h | h
        · exact .inl (hb.levS x h b e)
        · rw [List.mem_singleton.1 h] at e; exact .inl (hb.topS b e)
      apart := by
        obtain ⟨h1, h2⟩ := List.pairwise_cons.1 hb.apart
        rw [List.map_append]
        refine List.pairwise_cons.2 ⟨fun x _ => .inl rfl, List.pairwise_append.2 ⟨h2, by simp, fun a ha b hb' => ?_⟩⟩
        simp at hb'
        subst hb'
        rcases h1 a ha with e | e
        · by_cases ha' : a = none
          · exact .inl ha'
          · exact .inr fun e2 => ha' (e2.trans e)
        · exact .inr fun e2 => e e2.symm
      full := .inl rfl
      fullL := fun x hx => by
        rcases List.mem_append.1 hx with h | h
        · exact hb.fullL x h
        · rw [List.mem_singleton.1 h]; exact hb.full
      okT := by simp
      okL := fun x hx => by
        rcases List.mem_append.1 hx with h | h
        · exact hb.okL x h
        · rw [List.mem_singleton.1 h]; exact hb.okT
      lt := fun i hi => by
        rcases hi with hi | rfl
        · exact Nat.lt_of_lt_of_le (hb.lt i hi) hF.size
        · exact hgl }
  · rcases hi with hi | rfl
    · exact .inl hi
    · exact hg.imp (fun h => (hb.own_block i h).1) id
theorem del_any (g n c : Nat) (ps : List (Option Nat)) (pl : Option Nat) (hn : ps.length = n) (hn2 : n ≤ 1000000) (w : World) (hrow : w.ownsRow 0 89 1 (.slice (some ⟨g, 0, none⟩) (n + 1) c) (n + 1) ((ps ++ [pl]).map Value.map)) :
    Calls Tryz.prog 84 #[.slice (some ⟨g, 0, none⟩) (n + 1) c, .int .i64 n, .int .i64 (n + 1)] w fun e w' => e = .returned (.slice (some ⟨g, 0, none⟩) n c) ∧ w'.ownsRow 0 89 1 (.slice (some ⟨g, 0, none⟩) n c) n (ps.map Value.map) ∧ w.grownBy w' (some g) := by
  rcases hrow.2 with ⟨h, _⟩ | ⟨g', cap, cur, hv, _, hg, h1, h2, h3, h4⟩
  · injection h with h; cases h
  · injection hv with hA _ hc
    injection hA with hA
    injection hA with hA
    subst hA
    subst hc
    obtain ⟨i0, hi0, hz0, hz1, hz2⟩ := info_parts lvl_info
    have hd : (ps ++ [pl]).toArray.size = n + 1 := by simp [hn]
    have hcur : ∀ j (hj : j < n + 1), cur[j]? = some (.map ((ps ++ [pl]).toArray[j]!)) := fun j hj => by
      have e1 : (cur.toList.take ((n + 1) * 1))[j]? = ((ps ++ [pl]).map Value.map)[j]? := by rw [h4]
      rw [List.getElem?_take_of_lt (by omega), List.getElem?_map] at e1
      rw [← Array.getElem?_toList, e1, getElem!_pos _ j (by rw [hd]; exact hj)]
      have hj2 : j < (ps ++ [pl]).length := by simp; omega
      rw [List.getElem?_eq_getElem hj2]
      rfl
    have hH : Holds Value.map w g 0 (ps ++ [pl]).toArray := fun j hj => by
      rw [hd] at hj
      have := hcur j hj
      simp [World.cell?, World.frozen?, hg, this]
    have hc := AnyE.slices_Delete delL Value.map (fun x => rfl) none Tryz.zeroValue89 i0 hi0 hz1 g 0 c n (n + 1) (ps ++ [pl]).toArray w hH (by rw [hd]; exact h1) (by unfold maxLen at h2; omega) (by omega) (by rw [hd]; omega)
    rw [hd] at hc
    have e5 : n + 1 - (n + 1 - n) = n := by omega
    have e6 : ((n + 1 : Nat) : Int) = (n : Int) + 1 := by omega
    rw [e5, e6] at hc
    refine Calls.mono hc ?_
    rintro e w' ⟨he, qq, rfl⟩
    have e7 : (ps ++ [pl]).toArray.toList.take n ++ (ps ++ [pl]).toArray.toList.drop (n + 1) ++ List.replicate (n + 1 - n) none = ps ++ [none] := by
      have e8 : n + 1 - n = 1 := by omega
      rw [e8, ← hn]
      simp
    rw [e7]
    refine ⟨he, ⟨by simp [hn], .inr ⟨g, c, putCells Value.map 0 (ps ++ [none]).toArray cur, rfl, Nat.zero_le _, ?_, by omega, h2, by simp [putCells, h3], ?_⟩⟩, ⟨rfl, rfl, rfl, by simp [putRow, mapBlock, Sort.ahead], fun k hk hne => ?_⟩⟩
    · simp [putRow, mapBlock, Sort.ahead, Array.getElem?_modify, hg, onCells]
    · apply List.ext_getElem?
      intro j
      by_cases hj : j < n
      · rw [List.getElem?_take_of_lt (by omega), Array.getElem?_toList]
        simp [putCells, show j < ps.length by omega, show j < cur.size by omega, show j < ps.length + 1 by omega]
      · rw [List.getElem?_take_eq_none (by omega), List.getElem?_eq_none (by simp; omega)]
    · have : g ≠ k := fun e => hne (by rw [e])
      simp [putRow, mapBlock, Sort.ahead, Array.getElem?_modify, this]
end Go.Proofs.YthdcdffdpdoeoaaGreatDoor
/-
  CONTRACTS OF PACKAGE buffer's Drop and Merge: each changes just what the buffer owns, and makes new memory. Conditions: as they stand.
-/
namespace Go.Proofs.YthdcdffdpdoeoaaGreatDoor
set_option maxRecDepth 100000
open Go.RowKit Go.Maps Go.Shelf
set_option linter.unusedVariables false
theorem drop_one (q c : Nat) (p0 : Option Nat) (A : Option Addr) (w : World) (hq : w.heap[q]? = some (.cells #[.map p0, .slice A 0 c] 106 (0, 0))) :
    Calls Tryz.prog 68 #[.pointer (some ⟨q, 0, none⟩)] w fun e w' => e = .returned (.int .i64 7) ∧ w' = w := by
  have c1 : w.cell? ⟨q, 1, none⟩ = some (.slice A 0 c) := by simp [World.cell?, hq]
  clear hq
  go_enter Tryz.func68, Tryz.ntmps68
  go_wp2_with fail
  go_ret
  exact ⟨by first | rfl | trivial, rfl⟩
set_option maxHeartbeats 2000000 in
theorem drop_low (q g n c : Nat) (p0 : Option Nat) (ps : List (Option Nat)) (pl : Option Nat) (hn : ps.length = n) (hn2 : n ≤ 1000000) (hgq : g ≠ q) (w : World) (hq : w.heap[q]? = some (.cells #[.map p0, .slice (some ⟨g, 0, none⟩) (n + 1) c] 106 (0, 0))) (own : w.ownsRow 0 89 1 (.slice (some ⟨g, 0, none⟩) (n + 1) c) (n + 1) ((ps ++ [pl]).map Value.map)) :
    Calls Tryz.prog 68 #[.pointer (some ⟨q, 0, none⟩)] w fun e w' => e = .returned (.int .i64 0) ∧ w'.heap[q]? = some (.cells #[.map pl, .slice (some ⟨g, 0, none⟩) n c] 106 (0, 0)) ∧ w'.ownsRow 0 89 1 (.slice (some ⟨g, 0, none⟩) n c) n (ps.map Value.map) ∧ Fro (fun i => i = q ∨ i = g) w w' := by
  have c0 : w.cell? ⟨q, 0, none⟩ = some (.map p0) := by simp [World.cell?, hq]
  have c1 : w.cell? ⟨q, 1, none⟩ = some (.slice (some ⟨g, 0, none⟩) (n + 1) c) := by simp [World.cell?, hq]
  have f0 : w.frozen? ⟨q, 0, none⟩ = false := by simp [World.frozen?, hq]
  have cg : w.cell? ((⟨g, 0, none⟩ : Addr).add n) = some (.map pl) := by
    rw [ad8_zero]
    rcases own.2 with ⟨h, _⟩ | ⟨g', cap, cur, hv, _, hg, h1, h2, h3, h4⟩
    · injection h with h; cases h
    · injection hv with hA _ hc
      injection hA with hA
      injection hA with hA
      subst hA
      have e1 : (cur.toList.take ((n + 1) * 1))[n]? = some (.map pl) := by
        rw [h4, List.map_append, List.getElem?_append_right (by simp; omega)]
        simp [hn]
      rw [List.getElem?_take_of_lt (by omega)] at e1
      have e2 : cur[n]? = some (.map pl) := by simpa using e1
      simp [World.cell?, hg, e2]
  have own1 : (w.setCell ⟨q, 0, none⟩ (.map pl)).ownsRow 0 89 1 (.slice (some ⟨g, 0, none⟩) (n + 1) c) (n + 1) ((ps ++ [pl]).map Value.map) := ownsRow_of_block own fun p e => by injection e with e; subst e; exact Below.heap_setCell _ ⟨q, 0, none⟩ _ _ hgq
  have hq1 : (w.setCell ⟨q, 0, none⟩ (.map pl)).heap[q]? = some (.cells #[.map pl, .slice (some ⟨g, 0, none⟩) (n + 1) c] 106 (0, 0)) := setBlock8 hq 0 (.map pl)
  have d1 : (w.setCell ⟨q, 0, none⟩ (.map pl)).cell? ⟨q, 1, none⟩ = some (.slice (some ⟨g, 0, none⟩) (n + 1) c) := by simp [World.cell?, hq1]
  have hcall := del_any g n c ps pl hn hn2 (w.setCell ⟨q, 0, none⟩ (.map pl)) own1
  obtain ⟨p, hp⟩ : ∃ p, p = (⟨g, 0, none⟩ : Addr) := ⟨_, rfl⟩
  have HP : Hid (p = (⟨g, 0, none⟩ : Addr)) := hp
  rw [← hp] at c1 cg d1 hcall
  have i0 : (0 : Int) ≤ (n : Int) := by omega
  have i1 : ¬ ((n : Int) < 0) := by omega
  have i2 : (n : Int) < (n : Int) + 1 := by omega
  have i3 : (n : Int) ≤ 1000000 := by omega
  have HQ := Lib.hid hq1
  clear hp hq1 own1 own hq
  go_enter Tryz.func68, Tryz.ntmps68
  go_wp2_with (go_at_call 84; refine hcall.mono ?_; rintro e w2 ⟨rfl, own2, hg2⟩; have hq2 := (hg2.block q (Array.getElem?_eq_some_iff.1 HQ.out).1 (fun e => by injection e with e; exact hgq e.symm)).trans HQ.out; have e2 := cell_of2 hq2; have f2 := frozen_of2 hq2)
  go_ret
  have hq3 := setBlock8 hq2 1 (.slice (some p) n c)
  rw [HP.out] at hq3 own2 ⊢
  refine ⟨by first | rfl | trivial, hq3, ownsRow_of_block own2 fun r e => by injection e with e; subst e; exact Below.heap_setCell _ ⟨q, 1, none⟩ _ _ hgq, ?_⟩
  exact ((Fro.set (S := fun i => i = q ∨ i = g) ⟨q, 0, none⟩ _ (.inl rfl)).trans (Fro.of_grown (S := fun i => i = g) hg2 (fun r e => by injection e with e; exact e.symm)) (fun i h => .inl (.inr h))).trans (Fro.set (S := fun i => i = q) ⟨q, 1, none⟩ _ rfl) (fun i h => .inl (.inl h))
theorem drop_at (q : Nat) (S : Nat → Prop) (p0 : Option Nat) (top : List Pr) (A : Option Addr) (c : Nat) (L : List (Option Nat × List Pr)) (pl : Option Nat) (rl : List Pr) (w : World) (hb : BufAt w q S p0 top A c (L ++ [(pl, rl)])) (hL : L.length ≤ 1000000) :
    Calls Tryz.prog 68 #[.pointer (some ⟨q, 0, none⟩)] w fun e w' => e = .returned (.int .i64 0) ∧ ∃ g c', A = some ⟨g, 0, none⟩ ∧ BufAt w' q S pl rl A c' L ∧ Fro (fun i => i = q ∨ i = g) w w' := by
  have hrow := hb.row
  rw [List.length_append, List.length_singleton] at hrow
  obtain ⟨g, rfl⟩ : ∃ g, A = some ⟨g, 0, none⟩ := by
    rcases hrow.2 with ⟨h, h0⟩ | ⟨g, cap, cur, h, _⟩
    · omega
    · injection h with h; exact ⟨g, h⟩
  have hg := hb.row_ne _ rfl
  have hobj := hb.obj
  rw [List.length_append, List.length_singleton] at hobj
  have hxs : (L ++ [(pl, rl)]).map (fun x : Option Nat × List Pr => Value.map x.1) = ((L.map Prod.fst) ++ [pl]).map Value.map := by simp
  rw [hxs] at hrow
  refine (drop_low q g L.length c p0 (L.map Prod.fst) pl (by simp) hL hg.1 w hobj hrow).mono ?_
  rintro e w' ⟨he, hq', hrow', hF⟩
  have hm : ∀ {p : Option Nat} {n : Nat} {f : Int → Option Int}, LO w p n f → LO w' p n f := fun {p n f} hl => hl.of_block fun i e => hF.block i (hl.lt i e) (fun h => by
    rcases h with h | h
    · exact hb.map_ne hl i e h
    · exact hg.2 hl (by rw [e, h]))
  have hmem : ∀ x ∈ L, x ∈ L ++ [(pl, rl)] := fun x hx => List.mem_append_left _ hx
  have hlast : (pl, rl) ∈ L ++ [(pl, rl)] := List.mem_append_right _ (List.mem_singleton.2 rfl)
  refine ⟨he, g, c, rfl, ?_, hF⟩
  exact {
    own := hb.own
    obj := hq'
    row := by rw [show L.map (fun x : Option Nat × List Pr => Value.map x.1) = (L.map Prod.fst).map Value.map by simp]; exact hrow'
    rowS := hb.rowS
    top_ := hm (hb.lev _ hlast)
    lev := fun x hx => hm (hb.lev x (hmem x hx))
    topS := fun b e => hb.levS _ hlast b e
    levS := fun x hx b e => hb.levS x (hmem x hx) b e
    apart := by
      have h2 := (List.pairwise_cons.1 hb.apart).2
      rw [List.map_append] at h2
      obtain ⟨h3, _, h5⟩ := List.pairwise_append.1 h2
      refine List.pairwise_cons.2 ⟨fun x hx => ?_, h3⟩
      rcases h5 x hx pl (by simp) with h | h
      · by_cases hp : pl = none
        · exact .inl hp
        · exact .inr fun e => hp (by rw [e, h])
      · exact .inr fun e => h e.symm
    full := hb.fullL _ hlast
    fullL := fun x hx => hb.fullL x (hmem x hx)
    okT := hb.okL _ hlast
    okL := fun x hx => hb.okL x (hmem x hx)
    lt := fun i hi => Nat.lt_of_lt_of_le (hb.lt i hi) hF.size }
/-- Drop: the highest level is gone, if it is not the lowest one. -/
theorem drop_any (q : Nat) (S : Nat → Prop) (T : List (List Pr)) (w : World) (h : RB w q S T) (hT : T.length ≤ 100000) :
    Calls Tryz.prog 68 #[.pointer (some ⟨q, 0, none⟩)] w fun e w' => e = .returned (.int .i64 (if T.length < 2 then 7 else 0)) ∧ RB w' q S (dropT T) ∧ Fro S w w' := by
  obtain ⟨p0, top, A, c, L, hb, rfl⟩ := h
  rcases List.eq_nil_or_concat L with rfl | ⟨L', ⟨pl, rl⟩, rfl⟩
  · refine (drop_one q c p0 A w hb.obj).mono ?_
    rintro e w' ⟨he, rfl⟩
    exact ⟨he, ⟨p0, top, A, c, [], hb, rfl⟩, Fro.refl _ _⟩
  · simp at hT
    rw [List.concat_eq_append] at hb ⊢
    refine (drop_at q S p0 top A c L' pl rl w hb (by omega)).mono ?_
    rintro e w' ⟨he, g, c', hA, hb', hF⟩
    refine ⟨by rw [he, if_neg (by simp)], ⟨pl, rl, A, c', L', hb', by simp [dropT]⟩, hF.weak fun i hi _ => ?_⟩
    rcases hi with rfl | rfl
    · exact hb.own
    · exact hb.rowS _ hA
set_option maxHeartbeats 2000000 in
theorem merge_one (q c : Nat) (p0 : Option Nat) (A : Option Addr) (w : World) (hq : w.heap[q]? = some (.cells #[.map p0, .slice A 0 c] 106 (0, 0))) :
    Calls Tryz.prog 52 #[.pointer (some ⟨q, 0, none⟩)] w fun e w' => e = .returned (.int .i64 7) ∧ w' = w := by
  have c0 : w.cell? ⟨q, 0, none⟩ = some (.map p0) := by simp [World.cell?, hq]
  have hcall := drop_one q c p0 A w hq
  clear hq
  go_enter Tryz.func52, Tryz.ntmps52
  go_wp2_with (go_at_call 68; refine hcall.mono ?_; rintro e w' ⟨rfl, rfl⟩)
  go_ret
  exact ⟨by first | rfl | trivial, rfl⟩
set_option maxHeartbeats 2000000 in
theorem merge_at (q : Nat) (S : Nat → Prop) (p0 : Option Nat) (top : List Pr) (A : Option Addr) (c : Nat) (L : List (Option Nat × List Pr)) (pl : Option Nat) (rl : List Pr) (w : World) (hb : BufAt w q S p0 top A c (L ++ [(pl, rl)])) (hL : L.length ≤ 1000000) (hlen : rl.length + top.length ≤ 1000000) :
    Calls Tryz.prog 52 #[.pointer (some ⟨q, 0, none⟩)] w fun e w' => e = .returned (.int .i64 0) ∧ RB w' q S ((rl ++ top) :: (L.map Prod.snd).reverse) ∧ Fro S w w' := by
  obtain ⟨c0, _, f0, _⟩ := hb.c0
  have HB := Lib.hid hb
  have hcall := drop_at q S p0 top A c L pl rl w hb hL
  clear hb
  go_enter Tryz.func52, Tryz.ntmps52
  go_wp2_with (go_at_call 68; refine hcall.mono ?_; rintro e w2 ⟨rfl, g, c', hA, hb2, hF2⟩; obtain ⟨d0, _, d0f, _⟩ := hb2.c0)
  have hlast : (pl, rl) ∈ L ++ [(pl, rl)] := List.mem_append_right _ (List.mem_singleton.2 rfl)
  have hg := HB.out.row_ne _ hA
  have hup : LO w2 p0 top.length (rowSays top) := HB.out.top_.of_block fun i e => hF2.block i (HB.out.top_.lt i e) (fun h => by
    rcases h with h | h
    · exact HB.out.map_ne HB.out.top_ i e h
    · exact hg.2 HB.out.top_ (by rw [e, h]))
  have hs : p0 = none ∨ ∃ v, wfI v ∧ (rowSays top v).isSome = true := by
    rcases HB.out.full with h | h
    · exact .inl h
    · cases htop : top with
      | nil => exact absurd htop h
      | cons a r =>
        refine .inr ⟨a.1, (HB.out.okT a (by rw [htop]; simp)).1, ?_⟩
        rw [rowSays, if_pos rfl]
        cases rowSays r a.1 <;> rfl
  have hne : p0 = none ∨ pl ≠ p0 := by
    rcases (List.pairwise_cons.1 HB.out.apart).1 pl (by simp) with h | h
    · exact .inl h
    · exact .inr fun e => h e.symm
  have hov := over_any p0 pl top.length rl.length (rowSays top) (rowSays rl) w2 hup hs hb2.top_ hne hlen
  refine hov.mono ?_
  rintro e w3 ⟨p', rfl, hp', hlo, hg3⟩
  have hpq : ∀ i, p' = some i → i ≠ q := fun i e => by
    rcases hp' with h | h
    · exact hb2.map_ne hup i (h ▸ e)
    · exact hb2.map_ne hb2.top_ i (h ▸ e)
  have hq3 : w3.heap[q]? = some (.cells #[.map pl, .slice A L.length c'] 106 (0, 0)) := (hg3.block q (Array.getElem?_eq_some_iff.1 hb2.obj).1 (fun e => hpq q e.symm rfl)).trans hb2.obj
  have hq4 := setBlock8 hq3 0 (.map p')
  have e3 : w3.cell? ⟨q, 0, none⟩ = some (.map pl) := by simp [World.cell?, hq3]
  have f3 : w3.frozen? ⟨q, 0, none⟩ = false := by simp [World.frozen?, hq3]
  have hk4 : ∀ i, i ≠ q → (w3.setCell ⟨q, 0, none⟩ (.map p')).heap[i]? = w3.heap[i]? := fun i hi => Below.heap_setCell w3 ⟨q, 0, none⟩ (.map p') i hi
  have hz4 : (w3.setCell ⟨q, 0, none⟩ (.map p')).heap.size = w3.heap.size := by simp [World.setCell]
  have hpS : ∀ i, p' = some i → S i := fun i e => by
    rcases hp' with h | h
    · exact HB.out.topS i (h ▸ e)
    · exact hb2.topS i (h ▸ e)
  have hF : Fro S w (w3.setCell ⟨q, 0, none⟩ (.map p')) := by
    refine ((hF2.weak (S' := S) fun i hi _ => ?_).trans (Fro.of_grown (S := S) hg3 (fun r e => hpS r e)) (fun i h => .inl h)).trans (Fro.set (S := S) ⟨q, 0, none⟩ _ HB.out.own) (fun i h => .inl h)
    rcases hi with rfl | rfl
    · exact HB.out.own
    · exact HB.out.rowS _ hA
  have hLp : ∀ x ∈ L, x.1 = none ∨ p' ≠ x.1 := fun x hx => by
    rcases hp' with rfl | rfl
    · rcases (List.pairwise_cons.1 HB.out.apart).1 x.1 (by simp; exact .inl ⟨x.2, hx⟩) with h | h
      · by_cases hn : x.1 = none
        · exact .inl hn
        · exact .inr fun e => hn (e ▸ h)
      · exact .inr h
    · rcases (List.pairwise_cons.1 hb2.apart).1 x.1 (List.mem_map_of_mem hx) with h | h
      · by_cases hn : x.1 = none
        · exact .inl hn
        · exact .inr fun e => hn (e ▸ h)
      · exact .inr h
  have hbig : BufAt (w3.setCell ⟨q, 0, none⟩ (.map p')) q S p' (rl ++ top) A c' L := {
    own := HB.out.own
    obj := hq4
    row := ownsRow_of_block hb2.row fun p e => (hk4 _ (hb2.row_ne p e).1).trans (hg3.block _ (hb2.lt _ (hb2.rowS p e)) (fun e2 => by
      rcases hp' with h | h
      · exact (hb2.row_ne p e).2 hup (h ▸ e2.symm)
      · exact (hb2.row_ne p e).2 hb2.top_ (h ▸ e2.symm)))
    rowS := hb2.rowS
    top_ := by
      refine ((hlo.of_block (w' := w3.setCell ⟨q, 0, none⟩ (.map p')) fun b e => hk4 b (hpq b e)).mono (by simp)).congr fun v hv => ?_
      exact (says_append rl top v).symm
    lev := fun x hx => (hb2.lev x hx).of_block fun b e => (hk4 b (hb2.map_ne (hb2.lev x hx) b e)).trans (hg3.block b ((hb2.lev x hx).lt b e) (fun e2 => by
      rcases hLp x hx with h | h
      · rw [h] at e; cases e
      · exact h (e2.symm.trans e.symm)))
    topS := hpS
    levS := hb2.levS
    apart := by
      refine List.pairwise_cons.2 ⟨fun y hy => ?_, (List.pairwise_cons.1 hb2.apart).2⟩
      obtain ⟨x, hx, rfl⟩ := List.mem_map.1 hy
      rcases hLp x hx with h | h
      · by_cases hn : p' = none
        · exact .inl hn
        · exact .inr fun e => hn (e.trans h)
      · exact .inr h
    full := by
      rcases hp' with rfl | rfl
      · rcases HB.out.full with h | h
        · exact .inl h
        · exact .inr (by simp [h])
      · rcases hb2.full with h | h
        · exact .inl h
        · exact .inr (by simp [h])
    fullL := hb2.fullL
    okT := fun e he => by
      rcases List.mem_append.1 he with h | h
      · exact hb2.okT e h
      · exact HB.out.okT e h
    okL := hb2.okL
    lt := fun i hi => by rw [hz4]; exact Nat.lt_of_lt_of_le (hb2.lt i hi) hg3.size }
  clear hov hlo hk4 hLp hup hs hne hlast hg hb2 hq3 hq4 hcall hz4
  go_wp2_with fail
  go_ret
  exact ⟨by first | rfl | trivial, ⟨p', rl ++ top, A, c', L, hbig, rfl⟩, hF⟩
/-- Merge: the highest level is gone, and the one below it has what it had, besides. -/
theorem merge_any (q : Nat) (S : Nat → Prop) (T : List (List Pr)) (w : World) (h : RB w q S T) (hT : T.length ≤ 100000) (hT2 : (flatB T).length ≤ 100000) :
    Calls Tryz.prog 52 #[.pointer (some ⟨q, 0, none⟩)] w fun e w' => e = .returned (.int .i64 (if T.length < 2 then 7 else 0)) ∧ RB w' q S (mergeT T) ∧ Fro S w w' := by
  obtain ⟨p0, top, A, c, L, hb, rfl⟩ := h
  rcases List.eq_nil_or_concat L with rfl | ⟨L', ⟨pl, rl⟩, rfl⟩
  · refine (merge_one q c p0 A w hb.obj).mono ?_
    rintro e w' ⟨he, rfl⟩
    exact ⟨he, ⟨p0, top, A, c, [], hb, rfl⟩, Fro.refl _ _⟩
  · simp at hT
    rw [List.concat_eq_append] at hb hT2 ⊢
    have e1 : ((L' ++ [(pl, rl)]).map Prod.snd).reverse = rl :: (L'.map Prod.snd).reverse := by simp
    rw [e1] at hT2 ⊢
    have e2 : flatB (top :: rl :: (L'.map Prod.snd).reverse) = flatB (L'.map Prod.snd).reverse ++ rl ++ top := rfl
    rw [e2] at hT2
    simp only [List.length_append] at hT2
    refine (merge_at q S p0 top A c L' pl rl w hb (by omega) (by omega)).mono ?_
    rintro e w' ⟨he, hb', hF⟩
    exact ⟨by rw [he, if_neg (by simp)], by simpa [mergeT] using hb', hF⟩
end Go.Proofs.YthdcdffdpdoeoaaGreatDoor
/-
  CONTRACTS OF PACKAGE buffer's Get, All and Copy, of a buffer as it lies. Conditions: as they stand.
-/
namespace Go.Proofs.YthdcdffdpdoeoaaGreatDoor
set_option maxRecDepth 100000
open Go.RowKit Go.Maps Go.Shelf
set_option linter.unusedVariables false
theorem row_le {T : List (List Pr)} {r : List Pr} (h : r ∈ T) : r.length ≤ (flatB T).length := by
  induction T with
  | nil => exact absurd h (by simp)
  | cons a t ih =>
    show _ ≤ (flatB t ++ a).length
    rw [List.length_append]
    rcases List.mem_cons.1 h with rfl | h
    · omega
    · have := ih h; omega
theorem attach_map8 {α β : Type} (L : List α) (f : α → β) : L.attach.map (fun x => f x.1) = L.map f := by
  have : L.attach.map (fun x => f x.1) = (L.attach.map Subtype.val).map f := by rw [List.map_map]; rfl
  rw [this, List.attach_map_subtype_val]
section
variable {w : World} {q : Nat} {S : Nat → Prop} {p0 : Option Nat} {top : List Pr} {A : Option Addr} {c : Nat} {L : List (Option Nat × List Pr)}
/-- The levels, each as it lies. -/
def BufAt.levs (h : BufAt w q S p0 top A c L) (hs : ∀ x ∈ L, x.2.length ≤ 1000) : List (Lev w w.heap.size) := L.attach.map fun x => ⟨x.1.1, x.1.2, h.lev x.1 x.2, fun b e => h.lt b (h.levS x.1 x.2 b e), hs x.1 x.2, h.okL x.1 x.2⟩
theorem BufAt.levs_len (h : BufAt w q S p0 top A c L) (hs : ∀ x ∈ L, x.2.length ≤ 1000) : (h.levs hs).length = L.length := by simp [BufAt.levs]
theorem BufAt.levs_rows (h : BufAt w q S p0 top A c L) (hs : ∀ x ∈ L, x.2.length ≤ 1000) : rowsOf (h.levs hs) = L.map Prod.snd := by
  simp [rowsOf, BufAt.levs, List.map_map, Function.comp_def]
  exact attach_map8 L Prod.snd
theorem BufAt.levs_p (h : BufAt w q S p0 top A c L) (hs : ∀ x ∈ L, x.2.length ≤ 1000) : (h.levs hs).map Lev.p = L.map Prod.fst := by
  simp [BufAt.levs, List.map_map, Function.comp_def]
  exact attach_map8 L Prod.fst
theorem BufAt.lies (h : BufAt w q S p0 top A c L) (hs : ∀ x ∈ L, x.2.length ≤ 1000) : Lies8 Lev.p w w.heap.size A (h.levs hs) := by
  intro j hj
  have hjL : j < L.length := by rw [← h.levs_len hs]; exact hj
  rcases h.row.2 with ⟨_, h0⟩ | ⟨g, cap, cur, hv, _, hg, h1, h2, h3, h4⟩
  · omega
  · injection hv with hA _ _
    refine ⟨⟨g, 0, none⟩, hA, (Array.getElem?_eq_some_iff.1 hg).1, ?_⟩
    have e0 : ((h.levs hs).map Lev.p)[j]? = (L.map Prod.fst)[j]? := by rw [h.levs_p hs]
    rw [List.getElem?_map, List.getElem?_eq_getElem hj, List.getElem?_map, List.getElem?_eq_getElem hjL] at e0
    have e0 : (h.levs hs)[j].p = L[j].1 := by simpa using e0
    rw [e0, ad8_zero]
    have e1 : (cur.toList.take (L.length * 1))[j]? = some (.map L[j].1) := by
      rw [h4, List.getElem?_map, List.getElem?_eq_getElem hjL]
      rfl
    rw [List.getElem?_take_of_lt (by omega)] at e1
    have e2 : cur[j]? = some (.map L[j].1) := by simpa using e1
    simp [World.cell?, hg, e2]
def BufAt.topLev (h : BufAt w q S p0 top A c L) (hs : top.length ≤ 1000) : Lev w w.heap.size := ⟨p0, top, h.top_, fun b e => h.lt b (h.topS b e), hs, h.okT⟩
end
/-- Get: what is written of a variable, and whether anything is. -/
theorem get_any (q : Nat) (S : Nat → Prop) (T : List (List Pr)) (v : Int) (hv : wfI v) (w : World) (h : RB w q S T) (hT : T.length ≤ 1000) (hT2 : (flatB T).length ≤ 1000) :
    Calls Tryz.prog 25 #[.pointer (some ⟨q, 0, none⟩), .int .i64 v] w fun e w' => e = .returned (got (saysL T v)) ∧ Below w.heap.size w w' := by
  obtain ⟨p0, top, A, c, L, hb, rfl⟩ := h
  have h1 : top.length ≤ 1000 := Nat.le_trans (row_le (by simp)) hT2
  have h2 : ∀ x ∈ L, x.2.length ≤ 1000 := fun x hx => Nat.le_trans (row_le (by simp; exact .inr ⟨x.1, hx⟩)) hT2
  obtain ⟨c0, c1, _, _⟩ := hb.c0
  have hlen := hb.levs_len h2
  rw [← hlen] at c1
  have hg := get_in 5 (by omega) q c A w (hb.topLev h1) (hb.levs h2) v hv (hb.lt q hb.own) c0 c1 (hb.lies h2) (by rw [hlen]; simp at hT; omega)
  refine callsIn_wide.1 (hg.mono ?_)
  rintro e w' ⟨rfl, hB⟩
  refine ⟨?_, hB⟩
  have : rowsOf (hb.topLev h1 :: (hb.levs h2).reverse) = top :: (L.map Prod.snd).reverse := by
    show top :: rowsOf (hb.levs h2).reverse = _
    rw [← hb.levs_rows h2]
    simp [rowsOf]
  rw [this]
/-- All: the rising row of all that is written, in new memory. -/
theorem all_any (q : Nat) (S : Nat → Prop) (T : List (List Pr)) (w : World) (h : RB w q S T) (hT : T.length ≤ 1000) (hT2 : (flatB T).length ≤ 1000) :
    Calls Tryz.prog 31 #[.pointer (some ⟨q, 0, none⟩)] w fun e w' => ∃ (B : Option Addr) (d : Nat), e = .returned (.slice B (allS (flatB T)).length d) ∧ w'.ownsRow w.heap.size 59 2 (.slice B (allS (flatB T)).length d) (allS (flatB T)).length (pairCells (allS (flatB T))) ∧ Below w.heap.size w w' := by
  obtain ⟨p0, top, A, c, L, hb, rfl⟩ := h
  have h1 : top.length ≤ 1000 := Nat.le_trans (row_le (by simp)) hT2
  have h2 : ∀ x ∈ L, x.2.length ≤ 1000 := fun x hx => Nat.le_trans (row_le (by simp; exact .inr ⟨x.1, hx⟩)) hT2
  obtain ⟨c0, c1, _, _⟩ := hb.c0
  have hlen := hb.levs_len h2
  rw [← hlen] at c1
  have hg := all_in 7 (by omega) q c A w (hb.topLev h1) (hb.levs h2) (hb.lt q hb.own) c0 c1 (hb.lies h2) (by rw [hlen]; simp at hT; omega)
  have : rowsOf (hb.topLev h1 :: (hb.levs h2).reverse) = top :: (L.map Prod.snd).reverse := by
    show top :: rowsOf (hb.levs h2).reverse = _
    rw [← hb.levs_rows h2]
    simp [rowsOf]
  rw [this] at hg
  exact callsIn_wide.1 hg
theorem snoc_at {w5 w9 : World} {q : Nat} {S : Nat → Prop} {p0 : Option Nat} {top : List Pr} {A : Option Addr} {c : Nat} {L : List (Option Nat × List Pr)} (hb : BufAt w5 q S p0 top A c L) {p' : Option Nat} {row : List Pr} (hl : LO w5 p' row.length (rowSays row)) (hnew : ∀ b, p' = some b → ¬ S b) (hok : ∀ e ∈ row, wfI e.1 ∧ wfI e.2) (hfull : p' = none ∨ row ≠ [])
    {g cap : Nat} {o : Obj} (hown : w9.ownsRow 0 89 1 (.slice (some ⟨g, 0, none⟩) (L.length + 1) cap) (L.length + 1) (L.map (fun x => Value.map x.1) ++ [.map p'])) (hgrow : (w5.alloc o).grownBy w9 (Value.ownBlock (.slice A L.length c))) (hat : Value.ownBlock (.slice A L.length c) = some g ∨ w5.heap.size ≤ g) (hgl : g < w9.heap.size) :
    BufAt (w9.setCell ⟨q, 1, none⟩ (.slice (some ⟨g, 0, none⟩) (L.length + 1) cap)) q (fun i => S i ∨ i = g ∨ p' = some i) p0 top (some ⟨g, 0, none⟩) cap (L ++ [(p', row)]) := by
  have hk : ∀ i, i < w5.heap.size → Value.ownBlock (.slice A L.length c) ≠ some i → w9.heap[i]? = w5.heap[i]? := fun i hi hne => (hgrow.block i (by simp; omega) (fun e => hne e.symm)).trans (Below.heap_alloc w5 o i hi)
  have hqlt := hb.lt q hb.own
  have hq9 : w9.heap[q]? = some (.cells #[.map p0, .slice A L.length c] 106 (0, 0)) := (hk q hqlt (fun e => (hb.own_block q e).2.1 rfl)).trans hb.obj
  have hgq : g ≠ q := by
    rcases hat with h | h
    · exact (hb.own_block g h).2.1
    · omega
  have hs : ∀ i, i ≠ q → (w9.setCell ⟨q, 1, none⟩ (.slice (some ⟨g, 0, none⟩) (L.length + 1) cap)).heap[i]? = w9.heap[i]? := fun i hi => Below.heap_setCell w9 ⟨q, 1, none⟩ _ i hi
  have hm : ∀ {p : Option Nat} {n : Nat} {f : Int → Option Int}, LO w5 p n f → LO (w9.setCell ⟨q, 1, none⟩ (.slice (some ⟨g, 0, none⟩) (L.length + 1) cap)) p n f := fun {p n f} h => h.of_block fun i e => (hs i (hb.map_ne h i e)).trans (hk i (h.lt i e) (fun e2 => (hb.own_block i e2).2.2 h e))
  exact {
    own := .inl hb.own
    obj := by
      have := setBlock8 hq9 1 (.slice (some ⟨g, 0, none⟩) (L.length + 1) cap)
      rw [this]
      simp
    row := by
      rw [List.map_append, List.length_append]
      exact ownsRow_of_block hown fun p e => by injection e with e; subst e; exact hs g hgq
    rowS := fun p e => by injection e with e; subst e; exact .inr (.inl rfl)
    top_ := hm hb.top_
    lev := fun x hx => by
      rcases List.mem_append.1 hx with h | h
      · exact hm (hb.lev x h)
      · rw [List.mem_singleton.1 h]; exact hm hl
    topS := fun b e => .inl (hb.topS b e)
    levS := fun x hx b e => by
      rcases List.mem_append.1 hx with h | h
      · exact .inl (hb.levS x h b e)
      · rw [List.mem_singleton.1 h] at e; exact .inr (.inr e)
    apart := by
      rw [List.map_append]
      show ((p0 :: L.map Prod.fst) ++ [p']).Pairwise _
      refine List.pairwise_append.2 ⟨hb.apart, by simp, fun a ha b hb' => ?_⟩
      simp only [List.mem_singleton] at hb'
      subst hb'
      by_cases hn : a = none
      · exact .inl hn
      · obtain ⟨i, rfl⟩ := Option.ne_none_iff_exists'.1 hn
        refine .inr fun e => hnew i e.symm ?_
        rcases List.mem_cons.1 ha with h | h
        · exact hb.topS i h.symm
        · obtain ⟨x, hx, h⟩ := List.mem_map.1 h
          exact hb.levS x hx i h
    full := hb.full
    fullL := fun x hx => by
      rcases List.mem_append.1 hx with h | h
      · exact hb.fullL x h
      · rw [List.mem_singleton.1 h]; exact hfull
    okT := hb.okT
    okL := fun x hx => by
      rcases List.mem_append.1 hx with h | h
      · exact hb.okL x h
      · rw [List.mem_singleton.1 h]; exact hok
    lt := fun i hi => by
      have hz : (w9.setCell ⟨q, 1, none⟩ (.slice (some ⟨g, 0, none⟩) (L.length + 1) cap)).heap.size = w9.heap.size := by simp [World.setCell]
      have := hgrow.size
      simp at this
      rw [hz]
      rcases hi with h | rfl | h
      · have := hb.lt i h; omega
      · exact hgl
      · have := hl.lt i h; omega }
end Go.Proofs.YthdcdffdpdoeoaaGreatDoor
