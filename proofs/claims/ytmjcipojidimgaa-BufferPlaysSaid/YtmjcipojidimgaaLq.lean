/-
  CONTRACTS OF PACKAGE buffer's Drop and Merge: each changes just what the buffer owns, and makes new memory. Conditions: as they stand.
-/
import Derived.Test.YtmjcipojidimgaaLp
namespace Go.Proofs.Ytmjcipojidimgaa
set_option maxRecDepth 100000
open Go.RowKit Go.Maps Go.Shelf
set_option linter.unusedVariables false
theorem drop_one (q c : Nat) (p0 : Option Nat) (A : Option Addr) (w : World) (hq : w.heap[q]? = some (.cells #[.map p0, .slice A 0 c] 55 (0, 0))) :
    Calls Try.prog 17 #[.pointer (some ⟨q, 0, none⟩)] w fun e w' => e = .returned (.int .i64 7) ∧ w' = w := by
  have c1 : w.cell? ⟨q, 1, none⟩ = some (.slice A 0 c) := by simp [World.cell?, hq]
  clear hq
  go_enter Try.func17, Try.ntmps17
  go_wp2_with fail
  go_ret
  exact ⟨by first | rfl | trivial, rfl⟩
set_option maxHeartbeats 2000000 in
theorem drop_low (q g n c : Nat) (p0 : Option Nat) (ps : List (Option Nat)) (pl : Option Nat) (hn : ps.length = n) (hn2 : n ≤ 1000000) (hgq : g ≠ q) (w : World) (hq : w.heap[q]? = some (.cells #[.map p0, .slice (some ⟨g, 0, none⟩) (n + 1) c] 55 (0, 0))) (own : w.ownsRow 0 52 1 (.slice (some ⟨g, 0, none⟩) (n + 1) c) (n + 1) ((ps ++ [pl]).map Value.map)) :
    Calls Try.prog 17 #[.pointer (some ⟨q, 0, none⟩)] w fun e w' => e = .returned (.int .i64 0) ∧ w'.heap[q]? = some (.cells #[.map pl, .slice (some ⟨g, 0, none⟩) n c] 55 (0, 0)) ∧ w'.ownsRow 0 52 1 (.slice (some ⟨g, 0, none⟩) n c) n (ps.map Value.map) ∧ Fro (fun i => i = q ∨ i = g) w w' := by
  have c0 : w.cell? ⟨q, 0, none⟩ = some (.map p0) := by simp [World.cell?, hq]
  have c1 : w.cell? ⟨q, 1, none⟩ = some (.slice (some ⟨g, 0, none⟩) (n + 1) c) := by simp [World.cell?, hq]
  have f0 : w.frozen? ⟨q, 0, none⟩ = false := by simp [World.frozen?, hq]
  have cg : w.cell? ((⟨g, 0, none⟩ : Addr).add n) = some (.map pl) := by
    rw [ad8_zero]
    rcases own.2 with ⟨h, _⟩ | ⟨g', cap, cur, hv, _, hg, h1, h2, h3, h4⟩
    · injection h with h; cases h
    · injection hv with hA _ hc
      injection hA with hA
      injection hA with hA
      subst hA
      have e1 : (cur.toList.take ((n + 1) * 1))[n]? = some (.map pl) := by
        rw [h4, List.map_append, List.getElem?_append_right (by simp; omega)]
        simp [hn]
      rw [List.getElem?_take_of_lt (by omega)] at e1
      have e2 : cur[n]? = some (.map pl) := by simpa using e1
      simp [World.cell?, hg, e2]
  have own1 : (w.setCell ⟨q, 0, none⟩ (.map pl)).ownsRow 0 52 1 (.slice (some ⟨g, 0, none⟩) (n + 1) c) (n + 1) ((ps ++ [pl]).map Value.map) := ownsRow_of_block own fun p e => by injection e with e; subst e; exact Below.heap_setCell _ ⟨q, 0, none⟩ _ _ hgq
  have hq1 : (w.setCell ⟨q, 0, none⟩ (.map pl)).heap[q]? = some (.cells #[.map pl, .slice (some ⟨g, 0, none⟩) (n + 1) c] 55 (0, 0)) := setBlock8 hq 0 (.map pl)
  have d1 : (w.setCell ⟨q, 0, none⟩ (.map pl)).cell? ⟨q, 1, none⟩ = some (.slice (some ⟨g, 0, none⟩) (n + 1) c) := by simp [World.cell?, hq1]
  have hcall := del_any g n c ps pl hn hn2 (w.setCell ⟨q, 0, none⟩ (.map pl)) own1
  obtain ⟨p, hp⟩ : ∃ p, p = (⟨g, 0, none⟩ : Addr) := ⟨_, rfl⟩
  have HP : Hid (p = (⟨g, 0, none⟩ : Addr)) := hp
  rw [← hp] at c1 cg d1 hcall
  have i0 : (0 : Int) ≤ (n : Int) := by omega
  have i1 : ¬ ((n : Int) < 0) := by omega
  have i2 : (n : Int) < (n : Int) + 1 := by omega
  have i3 : (n : Int) ≤ 1000000 := by omega
  have HQ := Lib.hid hq1
  clear hp hq1 own1 own hq
  go_enter Try.func17, Try.ntmps17
  go_wp2_with (go_at_call 31; refine hcall.mono ?_; rintro e w2 ⟨rfl, own2, hg2⟩; have hq2 := (hg2.block q (Array.getElem?_eq_some_iff.1 HQ.out).1 (fun e => by injection e with e; exact hgq e.symm)).trans HQ.out; have e2 := cell_of2 hq2; have f2 := frozen_of2 hq2)
  go_ret
  have hq3 := setBlock8 hq2 1 (.slice (some p) n c)
  rw [HP.out] at hq3 own2 ⊢
  refine ⟨by first | rfl | trivial, hq3, ownsRow_of_block own2 fun r e => by injection e with e; subst e; exact Below.heap_setCell _ ⟨q, 1, none⟩ _ _ hgq, ?_⟩
  exact ((Fro.set (S := fun i => i = q ∨ i = g) ⟨q, 0, none⟩ _ (.inl rfl)).trans (Fro.of_grown (S := fun i => i = g) hg2 (fun r e => by injection e with e; exact e.symm)) (fun i h => .inl (.inr h))).trans (Fro.set (S := fun i => i = q) ⟨q, 1, none⟩ _ rfl) (fun i h => .inl (.inl h))
theorem drop_at (q : Nat) (S : Nat → Prop) (p0 : Option Nat) (top : List Pr) (A : Option Addr) (c : Nat) (L : List (Option Nat × List Pr)) (pl : Option Nat) (rl : List Pr) (w : World) (hb : BufAt w q S p0 top A c (L ++ [(pl, rl)])) (hL : L.length ≤ 1000000) :
    Calls Try.prog 17 #[.pointer (some ⟨q, 0, none⟩)] w fun e w' => e = .returned (.int .i64 0) ∧ ∃ g c', A = some ⟨g, 0, none⟩ ∧ BufAt w' q S pl rl A c' L ∧ Fro (fun i => i = q ∨ i = g) w w' := by
  have hrow := hb.row
  rw [List.length_append, List.length_singleton] at hrow
  obtain ⟨g, rfl⟩ : ∃ g, A = some ⟨g, 0, none⟩ := by
    rcases hrow.2 with ⟨h, h0⟩ | ⟨g, cap, cur, h, _⟩
    · omega
    · injection h with h; exact ⟨g, h⟩
  have hg := hb.row_ne _ rfl
  have hobj := hb.obj
  rw [List.length_append, List.length_singleton] at hobj
  have hxs : (L ++ [(pl, rl)]).map (fun x : Option Nat × List Pr => Value.map x.1) = ((L.map Prod.fst) ++ [pl]).map Value.map := by simp
  rw [hxs] at hrow
  refine (drop_low q g L.length c p0 (L.map Prod.fst) pl (by simp) hL hg.1 w hobj hrow).mono ?_
  rintro e w' ⟨he, hq', hrow', hF⟩
  have hm : ∀ {p : Option Nat} {n : Nat} {f : Int → Option Int}, LO w p n f → LO w' p n f := fun {p n f} hl => hl.of_block fun i e => hF.block i (hl.lt i e) (fun h => by
    rcases h with h | h
    · exact hb.map_ne hl i e h
    · exact hg.2 hl (by rw [e, h]))
  have hmem : ∀ x ∈ L, x ∈ L ++ [(pl, rl)] := fun x hx => List.mem_append_left _ hx
  have hlast : (pl, rl) ∈ L ++ [(pl, rl)] := List.mem_append_right _ (List.mem_singleton.2 rfl)
  refine ⟨he, g, c, rfl, ?_, hF⟩
  exact {
    own := hb.own
    obj := hq'
    row := by rw [show L.map (fun x : Option Nat × List Pr => Value.map x.1) = (L.map Prod.fst).map Value.map by simp]; exact hrow'
    rowS := hb.rowS
    top_ := hm (hb.lev _ hlast)
    lev := fun x hx => hm (hb.lev x (hmem x hx))
    topS := fun b e => hb.levS _ hlast b e
    levS := fun x hx b e => hb.levS x (hmem x hx) b e
    apart := by
      have h2 := (List.pairwise_cons.1 hb.apart).2
      rw [List.map_append] at h2
      obtain ⟨h3, _, h5⟩ := List.pairwise_append.1 h2
      refine List.pairwise_cons.2 ⟨fun x hx => ?_, h3⟩
      rcases h5 x hx pl (by simp) with h | h
      · by_cases hp : pl = none
        · exact .inl hp
        · exact .inr fun e => hp (by rw [e, h])
      · exact .inr fun e => h e.symm
    full := hb.fullL _ hlast
    fullL := fun x hx => hb.fullL x (hmem x hx)
    okT := hb.okL _ hlast
    okL := fun x hx => hb.okL x (hmem x hx)
    lt := fun i hi => Nat.lt_of_lt_of_le (hb.lt i hi) hF.size }
/-- Drop: the highest level is gone, if it is not the lowest one. -/
theorem drop_any (q : Nat) (S : Nat → Prop) (T : List (List Pr)) (w : World) (h : RB w q S T) (hT : T.length ≤ 100000) :
    Calls Try.prog 17 #[.pointer (some ⟨q, 0, none⟩)] w fun e w' => e = .returned (.int .i64 (if T.length < 2 then 7 else 0)) ∧ RB w' q S (dropT T) ∧ Fro S w w' := by
  obtain ⟨p0, top, A, c, L, hb, rfl⟩ := h
  rcases List.eq_nil_or_concat L with rfl | ⟨L', ⟨pl, rl⟩, rfl⟩
  · refine (drop_one q c p0 A w hb.obj).mono ?_
    rintro e w' ⟨he, rfl⟩
    exact ⟨he, ⟨p0, top, A, c, [], hb, rfl⟩, Fro.refl _ _⟩
  · simp at hT
    rw [List.concat_eq_append] at hb ⊢
    refine (drop_at q S p0 top A c L' pl rl w hb (by omega)).mono ?_
    rintro e w' ⟨he, g, c', hA, hb', hF⟩
    refine ⟨by rw [he, if_neg (by simp)], ⟨pl, rl, A, c', L', hb', by simp [dropT]⟩, hF.weak fun i hi _ => ?_⟩
    rcases hi with rfl | rfl
    · exact hb.own
    · exact hb.rowS _ hA
set_option maxHeartbeats 2000000 in
theorem merge_one (q c : Nat) (p0 : Option Nat) (A : Option Addr) (w : World) (hq : w.heap[q]? = some (.cells #[.map p0, .slice A 0 c] 55 (0, 0))) :
    Calls Try.prog 19 #[.pointer (some ⟨q, 0, none⟩)] w fun e w' => e = .returned (.int .i64 7) ∧ w' = w := by
  have c0 : w.cell? ⟨q, 0, none⟩ = some (.map p0) := by simp [World.cell?, hq]
  have hcall := drop_one q c p0 A w hq
  clear hq
  go_enter Try.func19, Try.ntmps19
  go_wp2_with (go_at_call 17; refine hcall.mono ?_; rintro e w' ⟨rfl, rfl⟩)
  go_ret
  exact ⟨by first | rfl | trivial, rfl⟩
set_option maxHeartbeats 2000000 in
theorem merge_at (q : Nat) (S : Nat → Prop) (p0 : Option Nat) (top : List Pr) (A : Option Addr) (c : Nat) (L : List (Option Nat × List Pr)) (pl : Option Nat) (rl : List Pr) (w : World) (hb : BufAt w q S p0 top A c (L ++ [(pl, rl)])) (hL : L.length ≤ 1000000) (hlen : rl.length + top.length ≤ 1000000) :
    Calls Try.prog 19 #[.pointer (some ⟨q, 0, none⟩)] w fun e w' => e = .returned (.int .i64 0) ∧ RB w' q S ((rl ++ top) :: (L.map Prod.snd).reverse) ∧ Fro S w w' := by
  obtain ⟨c0, _, f0, _⟩ := hb.c0
  have HB := Lib.hid hb
  have hcall := drop_at q S p0 top A c L pl rl w hb hL
  clear hb
  go_enter Try.func19, Try.ntmps19
  go_wp2_with (go_at_call 17; refine hcall.mono ?_; rintro e w2 ⟨rfl, g, c', hA, hb2, hF2⟩; obtain ⟨d0, _, d0f, _⟩ := hb2.c0)
  have hlast : (pl, rl) ∈ L ++ [(pl, rl)] := List.mem_append_right _ (List.mem_singleton.2 rfl)
  have hg := HB.out.row_ne _ hA
  have hup : LO w2 p0 top.length (rowSays top) := HB.out.top_.of_block fun i e => hF2.block i (HB.out.top_.lt i e) (fun h => by
    rcases h with h | h
    · exact HB.out.map_ne HB.out.top_ i e h
    · exact hg.2 HB.out.top_ (by rw [e, h]))
  have hs : p0 = none ∨ ∃ v, wfI v ∧ (rowSays top v).isSome = true := by
    rcases HB.out.full with h | h
    · exact .inl h
    · cases htop : top with
      | nil => exact absurd htop h
      | cons a r =>
        refine .inr ⟨a.1, (HB.out.okT a (by rw [htop]; simp)).1, ?_⟩
        rw [rowSays, if_pos rfl]
        cases rowSays r a.1 <;> rfl
  have hne : p0 = none ∨ pl ≠ p0 := by
    rcases (List.pairwise_cons.1 HB.out.apart).1 pl (by simp) with h | h
    · exact .inl h
    · exact .inr fun e => h e.symm
  have hov := over_any p0 pl top.length rl.length (rowSays top) (rowSays rl) w2 hup hs hb2.top_ hne hlen
  refine hov.mono ?_
  rintro e w3 ⟨p', rfl, hp', hlo, hg3⟩
  have hpq : ∀ i, p' = some i → i ≠ q := fun i e => by
    rcases hp' with h | h
    · exact hb2.map_ne hup i (h ▸ e)
    · exact hb2.map_ne hb2.top_ i (h ▸ e)
  have hq3 : w3.heap[q]? = some (.cells #[.map pl, .slice A L.length c'] 55 (0, 0)) := (hg3.block q (Array.getElem?_eq_some_iff.1 hb2.obj).1 (fun e => hpq q e.symm rfl)).trans hb2.obj
  have hq4 := setBlock8 hq3 0 (.map p')
  have e3 : w3.cell? ⟨q, 0, none⟩ = some (.map pl) := by simp [World.cell?, hq3]
  have f3 : w3.frozen? ⟨q, 0, none⟩ = false := by simp [World.frozen?, hq3]
  have hk4 : ∀ i, i ≠ q → (w3.setCell ⟨q, 0, none⟩ (.map p')).heap[i]? = w3.heap[i]? := fun i hi => Below.heap_setCell w3 ⟨q, 0, none⟩ (.map p') i hi
  have hz4 : (w3.setCell ⟨q, 0, none⟩ (.map p')).heap.size = w3.heap.size := by simp [World.setCell]
  have hpS : ∀ i, p' = some i → S i := fun i e => by
    rcases hp' with h | h
    · exact HB.out.topS i (h ▸ e)
    · exact hb2.topS i (h ▸ e)
  have hF : Fro S w (w3.setCell ⟨q, 0, none⟩ (.map p')) := by
    refine ((hF2.weak (S' := S) fun i hi _ => ?_).trans (Fro.of_grown (S := S) hg3 (fun r e => hpS r e)) (fun i h => .inl h)).trans (Fro.set (S := S) ⟨q, 0, none⟩ _ HB.out.own) (fun i h => .inl h)
    rcases hi with rfl | rfl
    · exact HB.out.own
    · exact HB.out.rowS _ hA
  have hLp : ∀ x ∈ L, x.1 = none ∨ p' ≠ x.1 := fun x hx => by
    rcases hp' with rfl | rfl
    · rcases (List.pairwise_cons.1 HB.out.apart).1 x.1 (by simp; exact .inl ⟨x.2, hx⟩) with h | h
      · by_cases hn : x.1 = none
        · exact .inl hn
        · exact .inr fun e => hn (e ▸ h)
      · exact .inr h
    · rcases (List.pairwise_cons.1 hb2.apart).1 x.1 (List.mem_map_of_mem hx) with h | h
      · by_cases hn : x.1 = none
        · exact .inl hn
        · exact .inr fun e => hn (e ▸ h)
      · exact .inr h
  have hbig : BufAt (w3.setCell ⟨q, 0, none⟩ (.map p')) q S p' (rl ++ top) A c' L := {
    own := HB.out.own
    obj := hq4
    row := ownsRow_of_block hb2.row fun p e => (hk4 _ (hb2.row_ne p e).1).trans (hg3.block _ (hb2.lt _ (hb2.rowS p e)) (fun e2 => by
      rcases hp' with h | h
      · exact (hb2.row_ne p e).2 hup (h ▸ e2.symm)
      · exact (hb2.row_ne p e).2 hb2.top_ (h ▸ e2.symm)))
    rowS := hb2.rowS
    top_ := by
      refine ((hlo.of_block (w' := w3.setCell ⟨q, 0, none⟩ (.map p')) fun b e => hk4 b (hpq b e)).mono (by simp)).congr fun v hv => ?_
      exact (says_append rl top v).symm
    lev := fun x hx => (hb2.lev x hx).of_block fun b e => (hk4 b (hb2.map_ne (hb2.lev x hx) b e)).trans (hg3.block b ((hb2.lev x hx).lt b e) (fun e2 => by
      rcases hLp x hx with h | h
      · rw [h] at e; cases e
      · exact h (e2.symm.trans e.symm)))
    topS := hpS
    levS := hb2.levS
    apart := by
      refine List.pairwise_cons.2 ⟨fun y hy => ?_, (List.pairwise_cons.1 hb2.apart).2⟩
      obtain ⟨x, hx, rfl⟩ := List.mem_map.1 hy
      rcases hLp x hx with h | h
      · by_cases hn : p' = none
        · exact .inl hn
        · exact .inr fun e => hn (e.trans h)
      · exact .inr h
    full := by
      rcases hp' with rfl | rfl
      · rcases HB.out.full with h | h
        · exact .inl h
        · exact .inr (by simp [h])
      · rcases hb2.full with h | h
        · exact .inl h
        · exact .inr (by simp [h])
    fullL := hb2.fullL
    okT := fun e he => by
      rcases List.mem_append.1 he with h | h
      · exact hb2.okT e h
      · exact HB.out.okT e h
    okL := hb2.okL
    lt := fun i hi => by rw [hz4]; exact Nat.lt_of_lt_of_le (hb2.lt i hi) hg3.size }
  clear hov hlo hk4 hLp hup hs hne hlast hg hb2 hq3 hq4 hcall hz4
  go_wp2_with fail
  go_ret
  exact ⟨by first | rfl | trivial, ⟨p', rl ++ top, A, c', L, hbig, rfl⟩, hF⟩
/-- Merge: the highest level is gone, and the one below it has what it had, besides. -/
theorem merge_any (q : Nat) (S : Nat → Prop) (T : List (List Pr)) (w : World) (h : RB w q S T) (hT : T.length ≤ 100000) (hT2 : (flat T).length ≤ 100000) :
    Calls Try.prog 19 #[.pointer (some ⟨q, 0, none⟩)] w fun e w' => e = .returned (.int .i64 (if T.length < 2 then 7 else 0)) ∧ RB w' q S (mergeT T) ∧ Fro S w w' := by
  obtain ⟨p0, top, A, c, L, hb, rfl⟩ := h
  rcases List.eq_nil_or_concat L with rfl | ⟨L', ⟨pl, rl⟩, rfl⟩
  · refine (merge_one q c p0 A w hb.obj).mono ?_
    rintro e w' ⟨he, rfl⟩
    exact ⟨he, ⟨p0, top, A, c, [], hb, rfl⟩, Fro.refl _ _⟩
  · simp at hT
    rw [List.concat_eq_append] at hb hT2 ⊢
    have e1 : ((L' ++ [(pl, rl)]).map Prod.snd).reverse = rl :: (L'.map Prod.snd).reverse := by simp
    rw [e1] at hT2 ⊢
    have e2 : flat (top :: rl :: (L'.map Prod.snd).reverse) = flat (L'.map Prod.snd).reverse ++ rl ++ top := rfl
    rw [e2] at hT2
    simp only [List.length_append] at hT2
    refine (merge_at q S p0 top A c L' pl rl w hb (by omega) (by omega)).mono ?_
    rintro e w' ⟨he, hb', hF⟩
    exact ⟨by rw [he, if_neg (by simp)], by simpa [mergeT] using hb', hF⟩
end Go.Proofs.Ytmjcipojidimgaa
