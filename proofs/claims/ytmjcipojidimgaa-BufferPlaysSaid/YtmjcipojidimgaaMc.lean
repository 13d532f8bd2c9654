/-
  CONTRACT OF seesawref08's Put. Conditions: as they stand.
-/
import Derived.Test.YtmjcipojidimgaaMb
import Derived.Deep.RegionLawGrows
namespace Go.Proofs.Ytmjcipojidimgaa
set_option maxRecDepth 100000
open Go.RowKit
set_option linter.unusedVariables false
theorem prow_snoc (l : List Pr) (v x : Int) : pairCells l ++ [.int .i64 v, .int .i64 x] = pairCells (l ++ [(v, x)]) := (pairCells_snoc l (v, x)).symm
theorem cl_alloc {w : World} {base : Nat} {tE : TypeId} {size : Nat} {v : Value} {n : Nat} {xs : List Value} (h : ClG w base tE size v n xs) (o : Obj) : ClG (w.alloc o) base tE size v n xs := h.imp id fun h => h.alloc o
theorem cl_low {w : World} {base base' : Nat} {tE : TypeId} {size : Nat} {v : Value} {n : Nat} {xs : List Value} (h : ClG w base tE size v n xs) (hb : base' ≤ base) : ClG w base' tE size v n xs := h.imp id fun h => ownsRow_low h hb
theorem bl1 (w : World) (o : Obj) : Below w.heap.size w (w.alloc o).drew := ((Below.refl _ w).alloc (Nat.le_refl _) o).drew
theorem bl2 (w : World) (o o' : Obj) : Below w.heap.size w ((w.alloc o).alloc o').drew := (((Below.refl _ w).alloc (Nat.le_refl _) o).alloc (by simp) o').drew
theorem hn2 (w : World) (o o' : Obj) : ((w.alloc o).alloc o').drew.heap[w.heap.size + 1]? = some o' ∧ w.heap.size + 1 < ((w.alloc o).alloc o').drew.heap.size := by
  have h1 := World.alloc_heap_new (w.alloc o) o'
  rw [World.size_alloc] at h1
  exact ⟨h1, (Array.getElem?_eq_some_iff.1 h1).1⟩
theorem hn1 (w : World) (o o' : Obj) : ((w.alloc o).alloc o').drew.heap[w.heap.size]? = some o ∧ w.heap.size < ((w.alloc o).alloc o').drew.heap.size := by
  have h1 : ((w.alloc o).alloc o').heap[w.heap.size]? = some o := (Below.heap_alloc (w.alloc o) o' w.heap.size (by simp)).trans (World.alloc_heap_new w o)
  exact ⟨h1, (Array.getElem?_eq_some_iff.1 h1).1⟩
set_option maxRecDepth 100000 in
set_option maxHeartbeats 4000000 in
theorem rput_low (q g n c : Nat) (A : Option Addr) (d : Nat) (l : List Pr) (v x : Int) (w : World) (c0 : w.cell? ⟨q, 0, none⟩ = some (.slice (some ⟨g, 0, none⟩) (n + 1) c)) (hq : q < w.heap.size) (hg : g < w.heap.size) (c1 : w.cell? ⟨g, n, none⟩ = some (.slice A l.length d)) (f1 : w.frozen? ⟨g, n, none⟩ = false) (hp : ∀ w', Below w.heap.size w w' → SrcG w' A (pairCells l)) (hn : n ≤ 1000000) (hl : l.length ≤ 1000000) :
    Calls Try.prog 14 #[.pointer (some ⟨q, 0, none⟩), .int .i64 v, .int .i64 x] w fun e w' => e = .returned (.int .i64 0) ∧ ∃ w1 A' d', w' = w1.setCell ⟨g, n, none⟩ (.slice A' (l.length + 1) d') ∧ Below w.heap.size w w1 ∧ ClG w1 w.heap.size 43 2 (.slice A' (l.length + 1) d') (l.length + 1) (pairCells l ++ [.int .i64 v, .int .i64 x]) := by
  have i1 : (0 : Int) ≤ (n : Int) := by omega
  have i2 : (n : Int) < (n : Int) + 1 := by omega
  have i3 : (n : Int) ≤ 1000000 := by omega
  have HP := Lib.hid hp
  clear hp
  have a0 : ∀ o, (w.alloc o).cell? ⟨q, 0, none⟩ = some (.slice (some ⟨g, 0, none⟩) (n + 1) c) := fun o => ((bl1 w o).cell (p := ⟨q, 0, none⟩) hq).trans c0
  have a1 : ∀ o, (w.alloc o).cell? ⟨g, n, none⟩ = some (.slice A l.length d) := fun o => ((bl1 w o).cell (p := ⟨g, n, none⟩) hg).trans c1
  have b0 : ∀ o o', ((w.alloc o).alloc o').cell? ⟨q, 0, none⟩ = some (.slice (some ⟨g, 0, none⟩) (n + 1) c) := fun o o' => ((bl2 w o o').cell (p := ⟨q, 0, none⟩) hq).trans c0
  have b1 : ∀ o o', ((w.alloc o).alloc o').cell? ⟨g, n, none⟩ = some (.slice A l.length d) := fun o o' => ((bl2 w o o').cell (p := ⟨g, n, none⟩) hg).trans c1
  go_enter Try.func14, Try.ntmps14
  go_wp2_with fail
  go_region_law
    (first
      | (refine step_app (o := _) (K := _) (Q := _) (E := _) rfl (.tmp 27) (.tmp 31) Try.underlying35 pair_info rfl (by omega) rfl _ rfl (by first | exact hc2 | exact cl_alloc hc2 _) (by simp; first | (have := hB2.size; simp at this; omega) | omega) [.int .i64 v, .int .i64 x] rfl rfl (by first | exact src_lit (World.alloc_heap_new w2 _) | exact src_lit ((hB2.block _ (hn2 w _ _).2).trans (hn2 w _ _).1) | exact src_lit ((hB2.block _ (hn1 w _ _).2).trans (hn1 w _ _).1)) (by simp [Value.oneCell']) (by omega) (by unfold maxLen; omega) (l.length + 1) rfl ?_
         intro A3 d3 w3 hc3 hB3; have hY : Below w.heap.size w w3 := (by first | exact hX.trans (hB3.mono (bl1 w _).size) | exact hX.trans (hB3.mono (bl2 w _ _).size) | exact (hX.alloc hX.size _).trans (hB3.mono (bl1 w _).size) | exact (hX.alloc hX.size _).trans (hB3.mono (bl2 w _ _).size)); have e4 := (hY.cell (p := ⟨q, 0, none⟩) hq).trans c0; have e3 := (hY.cell (p := ⟨g, n, none⟩) hg).trans c1; have f3 := (hY.frozen (p := ⟨g, n, none⟩) hg).trans f1)
      | (refine step_app (o := _) (K := _) (Q := _) (E := _) rfl (.tmp 19) (.tmp 26) Try.underlying35 pair_info rfl (by omega) rfl _ rfl (.inl ⟨_, rfl, rfl, rfl⟩) (Nat.le_refl _) (pairCells l) rfl (pairCells_len l) (HP.out _ (by first | exact bl1 w _ | exact bl2 w _ _)) (pairs_one l) (by omega) (by unfold maxLen; omega) l.length (by omega) ?_
         intro A2 d2 w2 hc2 hB2; have hX : Below w.heap.size w w2 := (by first | exact (bl1 w _).trans (hB2.mono (bl1 w _).size) | exact (bl2 w _ _).trans (hB2.mono (bl2 w _ _).size)); have e2 := (hX.cell (p := ⟨q, 0, none⟩) hq).trans c0; have e5 := fun o => ((hX.alloc hX.size o).cell (p := ⟨q, 0, none⟩) hq).trans c0))
  all_goals
    go_wp2_with fail
    go_ret
    exact ⟨rfl, w3, A3, d3, rfl, hY, by first | exact cl_low hc3 (bl1 w _).size | exact cl_low hc3 (bl2 w _ _).size⟩
end Go.Proofs.Ytmjcipojidimgaa
