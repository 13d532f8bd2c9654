/-
  CONTRACT OF seesawref08's Copy. Conditions: as they stand.
-/
import Derived.Test.YtmjcipojidimgaaMd
import Derived.Deep.AppendLies
namespace Go.Proofs.Ytmjcipojidimgaa
set_option maxRecDepth 100000
open Go.RowKit
set_option linter.unusedVariables false
theorem kd1 (w : World) (o : Obj) : Below w.heap.size w (w.alloc o).drew := ((Below.refl _ w).alloc (Nat.le_refl _) o).drew
theorem kd0 (w : World) (o : Obj) : Below w.heap.size w (w.alloc o) := (Below.refl _ w).alloc (Nat.le_refl _) o
theorem RefAt.srcC {w : World} {q : Nat} {S : Nat → Prop} {g c : Nat} {L : List Lv} (h : RefAt w q S g c L) {x : Lv} (hx : x ∈ L) {w' : World} (hk : ∀ b, b < w.heap.size → b ≠ g → b ≠ q → w'.heap[b]? = w.heap[b]?) : SrcG w' x.1 (pairCells x.2.2) := by
  intro j u hu
  have hne : x.2.2 ≠ [] := fun e => by rw [e] at hu; simp [pairCells] at hu
  obtain ⟨a, ha, hc⟩ := pairs_src (h.lev x hx) j u hu
  obtain ⟨f1, f2, f3⟩ := h.far x hx hne a ha
  exact ⟨a, ha, (World.cell?_of_block (a := a.add j) (by rw [ad8_block]; exact hk _ (h.lt _ f1) f2 f3)).trans hc⟩
theorem append_rows_step {ops : Array Oper} {o : Oper} {a : Act} {K : Act → World → Prop} {Q : Exit → Act → World → Prop} {E : Prop} {wx : World} {k : Nat} {sv v : Value} {xs : List Value}
    (own : wx.ownsRow 0 35 1 sv k xs) (hk : k ≤ 1000000) (hgd : o.guard = none) (s x : Operand) (ho : o.op = .call { callee := .builtin .append, args := #[s, x], argTypes := #[38, 38] }) (hs : a.eval s = sv) (hx : a.eval x = .slice (some ⟨wx.heap.size, 0, none⟩) 1 1) (hv : v.oneCell' = true)
    (h : ∀ g cap w', w'.ownsRow 0 35 1 (.slice (some ⟨g, 0, none⟩) (k + 1) cap) (k + 1) (xs ++ [v]) → (wx.alloc (.cells #[v] 35)).grownBy w' sv.ownBlock → (sv.ownBlock = some g ∨ g = wx.heap.size + 1) → g < w'.heap.size → K (a.put o.dst (.slice (some ⟨g, 0, none⟩) (k + 1) cap)) w') :
    if Region.wanted o (yielded ops a.tmps) = true then Oper.wp Try.prog o a (wx.alloc (.cells #[v] 35)) K Q else E := by
  obtain ⟨i0, hi0, hz0, hz1, hz2⟩ := info_parts rows_info
  have zz : (wx.alloc (.cells #[v] 35)).heap.size = wx.heap.size + 1 := by simp
  exact step_append_lies _ hgd s x _ ho 0 35 i0 _ 1 24 Try.underlying38 hi0 hz0 hz1 hz2 rfl (by omega) sv k xs hs (own.alloc _) ⟨wx.heap.size, 0, none⟩ 1 1 [v] hx rfl (World.news_of_block (cs := #[v]) (t := 35) (fr := (0, 0)) (World.alloc_heap_new wx _)) (by intro u hu; simp at hu; rw [hu]; exact hv) (by omega) (by unfold maxLen; omega) (by omega) (by rw [zz]; omega) (wx.heap.size + 1) zz h
theorem far9 {w w6 w9 : World} {cq n c : Nat} {A : Option Addr} {o : Obj} (h : (w6.alloc o).grownBy w9 (Value.ownBlock (.slice A n c))) (hB : Below w.heap.size w w6) (hq : cq < w.heap.size) (hr : ∀ r, Value.ownBlock (.slice A n c) = some r → r ≠ cq) : w9.cell? ⟨cq, 0, none⟩ = w.cell? ⟨cq, 0, none⟩ ∧ w9.frozen? ⟨cq, 0, none⟩ = w.frozen? ⟨cq, 0, none⟩ := by
  have hz := hB.size
  have e : w9.heap[cq]? = w.heap[cq]? := (h.block cq (by simp; omega) (fun e => hr cq e.symm rfl)).trans ((Below.heap_alloc w6 o cq (by omega)).trans (hB.block cq hq))
  exact ⟨World.cell?_of_block (a := ⟨cq, 0, none⟩) e, World.frozen?_of_block (a := ⟨cq, 0, none⟩) e⟩
/-- How the copy is, behind k levels: its cell, its row of rows, its rows. -/
structure RCopy (w : World) (cq : Nat) (L : List Lv) (k : Nat) (A : Option Addr) (c : Nat) (Lk : List Lv) (wr : World) : Prop where
  obj : wr.heap[cq]? = some (.cells #[.slice A k c] 40 (0, 0))
  new : w.heap.size ≤ cq
  row : wr.ownsRow 0 35 1 (.slice A k c) k (Lk.map Lv.val)
  rowS : ∀ r, Value.ownBlock (.slice A k c) = some r → w.heap.size ≤ r ∧ r ≠ cq ∧ r < wr.heap.size
  same : Lk.map (·.2.2) = (L.take k).map (·.2.2)
  lev : ∀ x ∈ Lk, PairsAt wr wr.heap.size x.1 x.2.2
  far : ∀ x ∈ Lk, x.2.2 ≠ [] → ∀ p, x.1 = some p → w.heap.size ≤ p.block ∧ p.block ≠ cq ∧ p.block < wr.heap.size ∧ Value.ownBlock (.slice A k c) ≠ some p.block
  low : Below w.heap.size w wr
theorem RCopy.next {w : World} {cq : Nat} {L : List Lv} {k : Nat} {A : Option Addr} {c : Nat} {Lk : List Lv} {wr : World} (h : RCopy w cq L k A c Lk wr) (hk : k < L.length) {B : Option Addr} {d : Nat} {l : List Pr} (hl : L[k].2.2 = l)
    {base : Nat} (hbase : wr.heap.size ≤ base) {w6 w9 : World} {g cap : Nat} {o : Obj} (hB : Below wr.heap.size wr w6) (hcl : ClG w6 base 43 2 (.slice B l.length d) l.length (pairCells l)) (hown : w9.ownsRow 0 35 1 (.slice (some ⟨g, 0, none⟩) (k + 1) cap) (k + 1) (Lk.map Lv.val ++ [.slice B l.length d])) (hgrow : (w6.alloc o).grownBy w9 (Value.ownBlock (.slice A k c))) (hat : Value.ownBlock (.slice A k c) = some g ∨ g = w6.heap.size + 1) (hgl : g < w9.heap.size) :
    RCopy w cq L (k + 1) (some ⟨g, 0, none⟩) cap (Lk ++ [(B, d, l)]) (w9.setCell ⟨cq, 0, none⟩ (.slice (some ⟨g, 0, none⟩) (k + 1) cap)) := by
  have hcq : cq < wr.heap.size := (Array.getElem?_eq_some_iff.1 h.obj).1
  have hz6 := hB.size
  have hz9 : w6.heap.size + 1 ≤ w9.heap.size := by have := hgrow.size; simpa using this
  have hzs : (w9.setCell ⟨cq, 0, none⟩ (.slice (some ⟨g, 0, none⟩) (k + 1) cap)).heap.size = w9.heap.size := by simp [World.setCell]
  have k6 : ∀ b, b < w6.heap.size → Value.ownBlock (.slice A k c) ≠ some b → w9.heap[b]? = w6.heap[b]? := fun b hb hn => (hgrow.block b (by simp; omega) (fun e => hn e.symm)).trans (Below.heap_alloc w6 o b hb)
  have ks : ∀ b, b ≠ cq → (w9.setCell ⟨cq, 0, none⟩ (.slice (some ⟨g, 0, none⟩) (k + 1) cap)).heap[b]? = w9.heap[b]? := fun b hb => Below.heap_setCell _ ⟨cq, 0, none⟩ _ b hb
  have hgq : g ≠ cq := by
    rcases hat with h' | h'
    · exact (h.rowS g h').2.1
    · omega
  obtain ⟨hp, hn⟩ := cl_pairs (n := 0) hcl
  have hrn : ∀ r, Value.ownBlock (.slice A k c) = some r → r < wr.heap.size := fun r e => (h.rowS r e).2.2
  have hgn : w.heap.size ≤ g := by
    rcases hat with h' | h'
    · exact (h.rowS g h').1
    · have := h.low.size; omega
  refine ⟨?_, h.new, ?_, ?_, ?_, fun x hx => ?_, fun x hx he p e => ?_, ?_⟩
  · have h9 := (k6 cq (by omega) (fun e => (h.rowS cq e).2.1 rfl)).trans ((hB.block cq hcq).trans h.obj)
    simpa using setBlock8 h9 0 (.slice (some ⟨g, 0, none⟩) (k + 1) cap)
  · rw [List.map_append]
    exact ownsRow_of_block hown fun p e => by injection e with e; subst e; exact ks g hgq
  · intro r e
    injection e with e
    have e : g = r := e
    subst e
    exact ⟨hgn, hgq, by rw [hzs]; exact hgl⟩
  · rw [List.map_append, h.same, List.take_succ_eq_append_getElem hk, List.map_append]
    simp [hl]
  · rcases List.mem_append.1 hx with hx | hx
    · refine (h.lev x hx).stay (by omega) fun he p e => ?_
      obtain ⟨f1, f2, f3, f4⟩ := h.far x hx he p e
      exact (ks _ f2).trans ((k6 _ (by omega) f4).trans (hB.block _ f3))
    · rw [List.mem_singleton.1 hx]
      refine hp.stay (by omega) fun he p e => ?_
      obtain ⟨f1, f2⟩ := hn he p e
      exact (ks _ (by omega)).trans (k6 _ f2 (fun e2 => by have := hrn _ e2; omega))
  · rcases List.mem_append.1 hx with hx | hx
    · obtain ⟨f1, f2, f3, f4⟩ := h.far x hx he p e
      refine ⟨f1, f2, by omega, fun e2 => ?_⟩
      injection e2 with e2
      have e2 : g = p.block := e2
      rcases hat with h' | h'
      · rw [e2] at h'; exact f4 h'
      · omega
    · rw [List.mem_singleton.1 hx] at he e
      obtain ⟨f1, f2⟩ := hn he p e
      refine ⟨by have := h.low.size; omega, by omega, by omega, fun e2 => ?_⟩
      injection e2 with e2
      have e2 : g = p.block := e2
      rcases hat with h' | h'
      · have := hrn _ h'; omega
      · omega
  · refine (h.low.trans ((hB.mono h.low.size).trans (((Below.refl w.heap.size w6).alloc (by have := h.low.size; omega) o).grown hgrow (by have := h.low.size; simp; omega) (fun r e => (h.rowS r e).1)))).setCell (p := ⟨cq, 0, none⟩) h.new _
set_option maxRecDepth 100000 in
set_option maxHeartbeats 4000000 in
theorem rcopy_low (q : Nat) (S : Nat → Prop) (g c : Nat) (L : List Lv) (w : World) (h : RefAt w q S g c L) (hL : L.length ≤ 100000) (hl : ∀ x ∈ L, x.2.2.length ≤ 1000000) :
    Calls Try.prog 12 #[.pointer (some ⟨q, 0, none⟩)] w fun e w' => ∃ cq A c' Lk, e = .returned (.pointer (some ⟨cq, 0, none⟩)) ∧ RCopy w cq L L.length A c' Lk w' := by
  have H := Lib.hid h
  obtain ⟨c0, f0⟩ := h.c0
  have hq := h.lt q h.own
  have hg := h.lt g h.ownG
  have hLi : (L.length : Int) ≤ 100000 := by omega
  clear h
  go_enter Try.func12, Try.ntmps12
  go_wp2_with fail
  have hC0 : RCopy w w.heap.size L 0 none 0 [] (w.alloc (.cells #[.slice none 0 0] 40)) :=
    ⟨World.alloc_heap_new w _, Nat.le_refl _, World.ownsRow_nil _ _ _ _, (fun r e => by cases e), rfl, by simp, by simp, kd0 w _⟩
  obtain ⟨cq, hcq⟩ : ∃ cq, cq = w.heap.size := ⟨_, rfl⟩
  have HC := Lib.hid hC0
  obtain ⟨W2, hW2⟩ : ∃ W2, W2 = w.alloc (.cells #[.slice none 0 0] 40) := ⟨_, rfl⟩
  rw [← hW2] at HC ⊢
  have HC2 : Hid (RCopy w cq L 0 none 0 [] W2) := by rw [hcq]; exact HC
  rw [show (Value.pointer (some ⟨w.heap.size, 0, none⟩)) = .pointer (some ⟨cq, 0, none⟩) by rw [hcq]]
  clear hC0 hcq hW2 HC
  go_loopw [4] (fun i wr => ∃ (k : Nat) (A : Option Addr) (c' : Nat) (Lk : List Lv), k ≤ L.length ∧ i = .int .i64 k ∧ Hid (RCopy w cq L k A c' Lk wr)) (fun i _ => L.length - (intOf i).toNat)
  case atStart => exact ⟨0, none, 0, [], Nat.zero_le _, rfl, HC2⟩
  case round =>
    obtain ⟨k, A, c', Lk, hk, rfl, hC⟩ := hrel
    have b0 := (hC.out.low.cell (p := ⟨q, 0, none⟩) hq).trans c0
    by_cases hlt : k < L.length
    · rcases hx : L[k] with ⟨B, d, l⟩
      have hrow := (H.out.row_cell k hlt).1
      rw [hx] at hrow
      dsimp only at hrow
      have hln : l.length ≤ 1000000 := by have := hl _ (List.getElem_mem hlt); rw [hx] at this; exact this
      have b1 := (hC.out.low.cell (p := ⟨g, k, none⟩) hg).trans hrow
      have d0 : wr.cell? ⟨cq, 0, none⟩ = some (.slice A k c') := by simp [World.cell?, hC.out.obj]
      have g0 : wr.frozen? ⟨cq, 0, none⟩ = false := by simp [World.frozen?, hC.out.obj]
      have hcq : cq < wr.heap.size := (Array.getElem?_eq_some_iff.1 hC.out.obj).1
      have hz := hC.out.low.size
      have hqr : q < wr.heap.size := by omega
      have hgr : g < wr.heap.size := by omega
      have e0 : ∀ o, (wr.alloc o).cell? ⟨q, 0, none⟩ = some (.slice (some ⟨g, 0, none⟩) L.length c) := fun o => ((kd0 wr o).cell (p := ⟨q, 0, none⟩) hqr).trans b0
      have e1 : ∀ o, (wr.alloc o).cell? ⟨g, k, none⟩ = some (.slice B l.length d) := fun o => ((kd0 wr o).cell (p := ⟨g, k, none⟩) hgr).trans b1
      have e2 : ∀ o, (wr.alloc o).cell? ⟨cq, 0, none⟩ = some (.slice A k c') := fun o => ((kd0 wr o).cell (p := ⟨cq, 0, none⟩) hcq).trans d0
      have HS : Hid (∀ w', Below wr.heap.size wr w' → SrcG w' B (pairCells l)) := fun w' hb => by
        have := H.out.srcC (List.getElem_mem hlt) (w' := w') (fun b h1 h2 h3 => (hb.block b (by omega)).trans (hC.out.low.block b h1))
        rw [hx] at this
        exact this
      have HO : Hid (∀ w', Below wr.heap.size wr w' → w'.ownsRow 0 35 1 (.slice A k c') k (Lk.map Lv.val)) := fun w' hb => ownsRow_of_block hC.out.row fun p e => hb.block _ (hC.out.rowS p.block (by rw [e]; rfl)).2.2
      have HRS : Hid (∀ r, Value.ownBlock (.slice A k c') = some r → r ≠ cq) := fun r e => (hC.out.rowS r e).2.1
      have i1 : (0 : Int) ≤ (k : Int) := by omega
      have i2 : (k : Int) < (L.length : Int) := by omega
      have i3 : (k : Int) ≤ 100000 := by omega
      have hk1 : k ≤ 1000000 := by omega
      have HX := Lib.hid hx
      clear hx hrow hz
      go_wp2_with fail
      go_region_law
        (first
          | (refine append_rows_step (ops := _) (K := _) (Q := _) (E := _) (wx := w6) (v := .slice A6 l.length d6) (HO.out w6 hX6) hk1 rfl (.tmp 20) (.tmp 30) rfl rfl rfl rfl ?_
             intro gg cap w9 hown hgrow hat hgl; have hq9 := far9 hgrow hX6 hcq (fun r e => HRS.out r e); have e9 := hq9.1.trans d0; have f9 := hq9.2.trans g0)
          | (refine step_app (o := _) (K := _) (Q := _) (E := _) rfl (.tmp 21) (.tmp 28) Try.underlying35 pair_info rfl (by omega) rfl _ rfl (.inl ⟨_, rfl, rfl, rfl⟩) (Nat.le_refl _) (pairCells l) rfl (pairCells_len l) (HS.out _ (kd1 wr _)) (pairs_one l) (by omega) (by unfold maxLen; omega) l.length (by omega) ?_
             intro A6 d6 w6 hc6 hB6; have hX6 : Below wr.heap.size wr w6 := (kd1 wr _).trans (hB6.mono (kd1 wr _).size); have e5 := (hX6.cell (p := ⟨cq, 0, none⟩) hcq).trans d0; have e7 := fun o => ((hX6.alloc hX6.size o).cell (p := ⟨cq, 0, none⟩) hcq).trans d0))
      all_goals
        have HN := Lib.hid (hC.out.next hlt (l := l) (by rw [HX.out]) (kd1 wr _).size hX6 hc6 hown hgrow hat hgl)
        clear hown hgrow hat hgl hc6 hB6 hX6 e5 e7 hq9 e9 f9
        go_wp2_with fail
        go_roundw
        case rel => exact ⟨k + 1, _, _, _, by omega, by go_num, HN⟩
        case measure => simp [intOf]; omega
    · obtain rfl : k = L.length := by omega
      have i1 : ¬ ((L.length : Int) < (L.length : Int)) := by omega
      go_wp2_with fail
      go_ret
      exact ⟨cq, rfl, A, c', Lk, hC.out⟩
theorem rcopy_any (q : Nat) (S : Nat → Prop) (T : List (List Pr)) (w : World) (h : RR w q S T) (hT : T.length ≤ 100000) (hT2 : (flat T).length ≤ 100000) :
    Calls Try.prog 12 #[.pointer (some ⟨q, 0, none⟩)] w fun e w' => ∃ cq S', e = .returned (.pointer (some ⟨cq, 0, none⟩)) ∧ RR w' cq S' T ∧ (∀ b, S' b → w.heap.size ≤ b) ∧ Below w.heap.size w w' := by
  obtain ⟨g, c, L, h, hne, rfl⟩ := h
  have hlen : L.length ≤ 100000 := by simpa using hT
  rw [flat_levels] at hT2
  refine (rcopy_low q S g c L w h hlen (fun x hx => by have := level_len hT2 x hx; omega)).mono ?_
  rintro e w' ⟨cq, A, c', Lk, he, hC⟩
  have hLn : 0 < L.length := List.length_pos_iff.2 hne
  obtain ⟨g', hg, _, _, hrow⟩ := cl_form (.inr hC.row) hLn
  subst hg
  have hS := hC.rowS g' rfl
  have hkl : Lk.length = L.length := by
    have := congrArg List.length hC.same
    simpa using this
  have hcq : cq < w'.heap.size := (Array.getElem?_eq_some_iff.1 hC.obj).1
  refine ⟨cq, fun b => w.heap.size ≤ b ∧ b < w'.heap.size, he, ⟨g', c', Lk, ?_, fun e => by rw [e] at hkl; simp at hkl; omega, ?_⟩, fun b h => h.1, hC.low⟩
  · exact {
      own := ⟨hC.new, hcq⟩
      ownG := ⟨hS.1, hS.2.2⟩
      ne := hS.2.1
      obj := by rw [hkl]; exact hC.obj
      row := by rw [hkl]; exact hC.row
      lev := hC.lev
      far := fun x hx he p e => by
        obtain ⟨f1, f2, f3, f4⟩ := hC.far x hx he p e
        exact ⟨⟨f1, f3⟩, fun e2 => f4 (by rw [e2]; rfl), f2⟩
      lt := fun b h => h.2 }
  · rw [hC.same, List.take_length]
end Go.Proofs.Ytmjcipojidimgaa
