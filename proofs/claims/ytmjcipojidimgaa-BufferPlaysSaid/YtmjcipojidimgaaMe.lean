/-
  CONTRACT OF seesawref08's Merge. Conditions: as they stand.
-/
import Derived.Test.YtmjcipojidimgaaMd
import Derived.Deep.DeepCutAuto
import Derived.Deep.CutBlock
namespace Go.Proofs.Ytmjcipojidimgaa
set_option maxRecDepth 100000
open Go.RowKit
set_option linter.unusedVariables false
theorem drewB (w : World) : Below w.heap.size w w.drew := (Below.refl _ w).drew
theorem bd1 (w : World) (o : Obj) : Below w.heap.size w (w.alloc o).drew := ((Below.refl _ w).alloc (Nat.le_refl _) o).drew
theorem bd2 (w : World) (o : Obj) : Below w.heap.size w (w.alloc o).drew.drew := ((Below.refl _ w).alloc (Nat.le_refl _) o).drew.drew
theorem bd0 (w : World) (o : Obj) : Below w.heap.size w (w.alloc o) := (Below.refl _ w).alloc (Nat.le_refl _) o
theorem RefAt.src {w : World} {q : Nat} {S : Nat → Prop} {g c : Nat} {L : List Lv} (h : RefAt w q S g c L) {x : Lv} (hx : x ∈ L) {w' : World} (hk : ∀ b, b < w.heap.size → b ≠ g → b ≠ q → w'.heap[b]? = w.heap[b]?) : SrcG w' x.1 (pairCells x.2.2) := by
  intro j u hu
  have hne : x.2.2 ≠ [] := fun e => by rw [e] at hu; simp [pairCells] at hu
  obtain ⟨a, ha, hc⟩ := pairs_src (h.lev x hx) j u hu
  obtain ⟨f1, f2, f3⟩ := h.far x hx hne a ha
  exact ⟨a, ha, (World.cell?_of_block (a := a.add j) (by rw [ad8_block]; exact hk _ (h.lt _ f1) f2 f3)).trans hc⟩
/-- What region 4 leaves. -/
theorem clw {w : World} {base base' : Nat} {tE : TypeId} {size : Nat} {v : Value} {n : Nat} {xs : List Value} (h : ClG w base tE size v n xs) (hb : base' ≤ base) : ClG w base' tE size v n xs := h.imp id fun h => ownsRow_low h hb
def MergeMid (w : World) (q n : Nat) (xs : List Value) (v : Value) (wx : World) : Prop := ∃ g4 d4 w4, v = .slice (some ⟨g4, 0, none⟩) n d4 ∧ wx = w4.setCell ⟨q, 0, none⟩ (.slice (some ⟨g4, 0, none⟩) n d4) ∧ Below w.heap.size w w4 ∧ w.heap.size ≤ g4 ∧ g4 < w4.heap.size ∧ w4.ownsRow w.heap.size 35 1 (.slice (some ⟨g4, 0, none⟩) n d4) n xs
set_option maxRecDepth 100000 in
set_option maxHeartbeats 4000000 in
theorem rmerge_low (q : Nat) (S : Nat → Prop) (g c m : Nat) (L : List Lv) (w : World) (h : RefAt w q S g c L) (n : Nat) (hn : n = m + 1) (hm : L.length = n + 1) (hm2 : m ≤ 100000) (A B : Option Addr) (d d2 : Nat) (l l2 : List Pr) (hA : L[n]'(by omega) = (A, d, l)) (hB : L[m]'(by omega) = (B, d2, l2)) (hl : l.length ≤ 1000000) (hl2 : l2.length ≤ 1000000) :
    Calls Try.prog 20 #[.pointer (some ⟨q, 0, none⟩)] w fun e w' => e = .returned (.int .i64 0) ∧ ∃ wx v g4 d4 w5 A' d', MergeMid w q n ((L.take n).map Lv.val) v wx ∧ v = .slice (some ⟨g4, 0, none⟩) n d4 ∧ Below wx.heap.size wx w5 ∧ ClG w5 wx.heap.size 43 2 (.slice A' (l2.length + l.length) d') (l2.length + l.length) (pairCells l2 ++ pairCells l) ∧ w' = w5.setCell ⟨g4, m, none⟩ (.slice A' (l2.length + l.length) d') := by
  have H := Lib.hid h
  obtain ⟨c0, f0⟩ := h.c0
  have c1 := (h.row_cell n (by omega)).1
  rw [hA] at c1
  dsimp only at c1
  rw [hm] at c0
  have hq := h.lt q h.own
  have hg := h.lt g h.ownG
  have a0 : ∀ o, (w.alloc o).cell? ⟨q, 0, none⟩ = some (.slice (some ⟨g, 0, none⟩) (n + 1) c) := fun o => ((bd0 w o).cell (p := ⟨q, 0, none⟩) hq).trans c0
  have i0 : ¬ ((n : Int) + 1 < 2) := by omega
  have i1 : (0 : Int) ≤ (n : Int) := by omega
  have i2 : (n : Int) < (n : Int) + 1 := by omega
  have i3 : (n : Int) ≤ 100001 := by omega
  have i4 : (0 : Int) ≤ (m : Int) := by omega
  have i5 : (m : Int) < (m : Int) + 1 := by omega
  have i6 : (n : Int) ≤ (c : Int) := by
    rcases h.row.2 with ⟨h2, _⟩ | ⟨_, _, _, hv, _, _, h5, _⟩
    · injection h2 with h2; cases h2
    · injection hv with _ _ hc; omega
  have HR := Lib.hid (row_src (row_prefix h.row n (by omega)))
  rw [Nat.mul_one, ← List.map_take] at HR
  have HS : Hid (∀ w', Below w.heap.size w w' → SrcG w' (some ⟨g, 0, none⟩) ((L.take n).map Lv.val)) := fun w' hb => src_below HR.out hb fun a e => by injection e with e; subst e; exact hg
  have hm3 : ((L.take n).map Lv.val).length = n := by rw [List.length_map, List.length_take]; omega
  have HL : Hid (∀ x ∈ L, ∀ w' : World, (∀ b, b < w.heap.size → b ≠ g → b ≠ q → w'.heap[b]? = w.heap[b]?) → SrcG w' x.1 (pairCells x.2.2)) := fun x hx w' hk => h.src hx hk
  have HLA : Hid (∀ w' : World, (∀ b, b < w.heap.size → b ≠ g → b ≠ q → w'.heap[b]? = w.heap[b]?) → SrcG w' A (pairCells l) ∧ SrcG w' B (pairCells l2)) := fun w' hk => by
    have e1 := HL.out _ (List.getElem_mem (l := L) (n := n) (by omega)) w' hk
    have e2 := HL.out _ (List.getElem_mem (l := L) (n := m) (by omega)) w' hk
    rw [hA] at e1
    rw [hB] at e2
    exact ⟨e1, e2⟩
  have hgq := h.ne
  have hw : IntKind.i64.wrap (n : Int) = (n : Int) := IntWalk.i64_in _ ⟨by omega, by omega⟩
  have HV := Lib.hid (show ((L.take n).map Lv.val)[m]? = some (.slice B l2.length d2) by
    rw [List.getElem?_map, List.getElem?_take_of_lt (by omega), List.getElem?_eq_getElem (by omega), hB]; rfl)
  obtain ⟨xs, hxs⟩ : ∃ xs, xs = (L.take n).map Lv.val := ⟨_, rfl⟩
  have h1 : ∀ u ∈ xs, u.oneCell' = true := by rw [hxs]; exact lv_one _
  rw [← hxs] at HR HS hm3 HV ⊢
  have HN := Lib.hid hn
  have HQ := Lib.hid h.obj
  clear hxs h HL HR hA hB H hn
  go_enter Try.func20, Try.ntmps20
  go_wp2_with fail
  go_region
  go_upto_region 4 with fail
  go_cut [3] (fun v3 wx => v3 = .slice A l.length d ∧ ∃ v4, MergeMid w q n xs v4 wx)
  case first =>
    go_region_law
      (refine step_app (o := _) (K := _) (Q := _) (E := _) rfl (.tmp 24) (.tmp 35) Try.underlying38 rows_info rfl (by omega) rfl _ rfl (.inl ⟨_, rfl, rfl, rfl⟩) (Nat.le_refl _) xs rfl (by rw [hm3]; omega) (HS.out _ (bd2 w _)) h1 (by omega) (by unfold maxLen; omega) n (by omega) ?_
       intro A4 d4 w4 hc4 hB4; have hX : Below w.heap.size w w4 := (bd2 w _).trans (hB4.mono (bd2 w _).size); have e4 := (hX.cell (p := ⟨q, 0, none⟩) hq).trans c0; have f4 := (hX.frozen (p := ⟨q, 0, none⟩) hq).trans f0)
    all_goals
      go_wp2_with fail
      go_meet
      case rel =>
        obtain ⟨g4, rfl, hb4, hl4, hrow⟩ := cl_form hc4 (by omega)
        exact ⟨rfl, _, g4, d4, w4, rfl, rfl, hX, Nat.le_trans (bd2 w _).size hb4, hl4, ownsRow_low hrow (bd2 w _).size⟩
  case rest =>
    obtain ⟨rfl, v4, hmid⟩ := hcut
    have HM := Lib.hid hmid
    obtain ⟨g4, d4, w4, rfl, hwc, hX, hb4, hl4, hrow⟩ := hmid
    have hn := HN.out
    subst hn
    have hz4 : wc.heap.size = w4.heap.size := by rw [hwc]; simp [World.setCell]
    have hk4 : ∀ b, b ≠ q → wc.heap[b]? = w4.heap[b]? := fun b hb => by rw [hwc]; exact Below.heap_setCell _ ⟨q, 0, none⟩ _ b hb
    have hg4 : g4 ≠ q := by omega
    have c4 : wc.cell? ⟨g4, m, none⟩ = some (.slice B l2.length d2) := by
      refine (World.cell?_of_block (a := ⟨g4, m, none⟩) (hk4 g4 hg4)).trans ?_
      rw [hrow.cellAt m (by omega)]
      exact HV.out
    have f4 : wc.frozen? ⟨g4, m, none⟩ = false := (World.frozen?_of_block (a := ⟨g4, m, none⟩) (hk4 g4 hg4)).trans (hrow.frozenAt m)
    have hq4 : q < w4.heap.size := Nat.lt_of_lt_of_le hq hX.size
    have c5 : wc.cell? ⟨q, 0, none⟩ = some (.slice (some ⟨g4, 0, none⟩) (m + 1) d4) := by
      have h4 := (hX.block q hq).trans HQ.out
      have := setBlock8 h4 0 (.slice (some ⟨g4, 0, none⟩) (m + 1) d4)
      rw [hwc]
      simp [World.cell?, this]
    have HSRC : Hid (∀ w', Below wc.heap.size wc w' → SrcG w' A (pairCells l) ∧ SrcG w' B (pairCells l2)) := fun w' hb => HLA.out w' fun b h1 h2 h3 => by
      refine (hb.block b (by rw [hz4]; have := hX.size; omega)).trans ((hk4 b h3).trans (hX.block b h1))
    have hqc : q < wc.heap.size := by rw [hz4]; exact hq4
    have hgc : g4 < wc.heap.size := by rw [hz4]; exact hl4
    have a5 : ∀ o, (wc.alloc o).cell? ⟨q, 0, none⟩ = some (.slice (some ⟨g4, 0, none⟩) (m + 1) d4) := fun o => ((bd0 wc o).cell (p := ⟨q, 0, none⟩) hqc).trans c5
    have a4 : ∀ o, (wc.alloc o).cell? ⟨g4, m, none⟩ = some (.slice B l2.length d2) := fun o => ((bd0 wc o).cell (p := ⟨g4, m, none⟩) hgc).trans c4
    have i4 : (0 : Int) ≤ (m : Int) := by omega
    have i5 : (m : Int) < (m : Int) + 1 := by omega
    clear hwc hX hb4 hl4 hrow hz4 hk4 hg4 hq4 a0 c0 f0 c1 hq hg i0 i1 i2 i6 hm
    go_wp2_with fail
    go_region_law
      (first
        | (refine step_app (o := _) (K := _) (Q := _) (E := _) rfl (.tmp 58) (.tmp 59) Try.underlying35 pair_info rfl (by omega) rfl _ rfl hc6 (by have := hB6.size; omega) (pairCells l) rfl (pairCells_len l) (HSRC.out _ hX6).1 (pairs_one l) (by omega) (by unfold maxLen; omega) (l2.length + l.length) rfl ?_
           intro A7 d7 w7 hc7 hB7; have hX7 : Below wc.heap.size wc w7 := hX6.trans (hB7.mono (bd1 wc _).size); have e7 := (hX7.cell (p := ⟨q, 0, none⟩) hqc).trans c5; have e8 := (hX7.cell (p := ⟨g4, m, none⟩) hgc).trans c4; have f7 := (hX7.frozen (p := ⟨g4, m, none⟩) hgc).trans f4)
        | (refine step_app (o := _) (K := _) (Q := _) (E := _) rfl (.tmp 50) (.tmp 57) Try.underlying35 pair_info rfl (by omega) rfl _ rfl (.inl ⟨_, rfl, rfl, rfl⟩) (Nat.le_refl _) (pairCells l2) rfl (pairCells_len l2) (HSRC.out _ (bd1 wc _)).2 (pairs_one l2) (by omega) (by unfold maxLen; omega) l2.length (by omega) ?_
           intro A6 d6 w6 hc6 hB6; have hX6 : Below wc.heap.size wc w6 := (bd1 wc _).trans (hB6.mono (bd1 wc _).size); have e6 := (hX6.cell (p := ⟨q, 0, none⟩) hqc).trans c5))
    all_goals
      go_wp2_with fail
      go_ret
      exact ⟨rfl, wc, _, g4, d4, w7, A7, d7, HM.out, rfl, hX7, clw hc7 (bd1 wc _).size, rfl⟩
end Go.Proofs.Ytmjcipojidimgaa
