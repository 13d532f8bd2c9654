/-
  HeapNames: the call returns true. No condition. (The examples, the bounds, what is refused in which row, and what is asked of nil.) Laid by gen/gen_hn.py.
-/
import Derived.Test.YtokhcogmoleocaaHq
import Derived.Test.YtokhcogmoleocaaLift
import Derived.Deep.RegionHeld3
namespace Go.Proofs.Ytokhcogmoleocaa
set_option maxRecDepth 100000
open Go.RowKit Go.Deep
open Go.ChangeShapes Go.WideShapes
set_option linter.unusedVariables false
theorem hnew_bad (n : Nat) {st limit : Int} (h : badH n st limit = true) (A : Option Addr) (c : Nat) (hl : n ≤ 9223372036854775807) (w : World) : Calls Try.prog 28 #[.slice A n c, .int .i64 st, .int .i64 limit] w fun e w' => e = .returned (.tuple #[.pointer none, .int .i64 1]) ∧ w = w' := by
  have := hnew_no (L := List.replicate n 0) (st := st) (limit := limit) (by rw [List.length_replicate]; exact h) A c (by rw [List.length_replicate]; exact hl) w
  rw [List.length_replicate] at this
  exact this
set_option maxHeartbeats 4000000 in
theorem same_nils (w : World) : Calls Try.prog 27 #[.pointer none, .pointer none] w fun e w' => e = .returned (.bool true) ∧ w = w' := by
  go_enter Try.func27, Try.ntmps27
  go_wp2_with fail
  go_ret
  exact ⟨rfl, rfl⟩
set_option maxHeartbeats 4000000 in
theorem same_nil (g : Nat) (w : World) : Calls Try.prog 27 #[.pointer (some ⟨g, 0, none⟩), .pointer none] w fun e w' => e = .returned (.bool false) ∧ w = w' := by
  go_enter Try.func27, Try.ntmps27
  go_wp2_with fail
  go_ret
  exact ⟨rfl, rfl⟩
def hnV : Nat → Int | 0 => 0 | 1 => 33 | _ => 2
def hnS : Nat → Int | 2 => 0 | 3 => 3 | _ => 1
def hnL : Nat → Int | 4 => -1 | 5 => 1099511627777 | _ => 1
def hnRow : Array Value := #[.int .i64 0, .int .i64 1, .int .i64 1, .int .i64 33, .int .i64 1, .int .i64 1, .int .i64 2, .int .i64 0, .int .i64 1, .int .i64 2, .int .i64 3, .int .i64 1, .int .i64 2, .int .i64 1, .int .i64 (-1), .int .i64 2, .int .i64 1, .int .i64 1099511627777]
theorem hn_at : ∀ k : Nat, k < 6 → hnRow[k * 3]? = some (.int .i64 (hnV k)) ∧ hnRow[k * 3 + 1]? = some (.int .i64 (hnS k)) ∧ hnRow[k * 3 + 2]? = some (.int .i64 (hnL k)) ∧ badH (hnV k).toNat (hnS k) (hnL k) = true ∧ 0 ≤ hnV k ∧ hnV k ≤ 33 := by
  intro k hk
  match k, hk with
  | 0, _ | 1, _ | 2, _ | 3, _ | 4, _ | 5, _ => exact ⟨rfl, rfl, rfl, by kernel_rfl, by decide, by decide⟩
  | k + 6, h => exact absurd h (by omega)
set_option maxHeartbeats 32000000 in
set_option maxRecDepth 100000 in
theorem HeapNames_walk (w : World) : Calls Try.prog 3 #[] w fun e w' => e = .returned (.bool true) ∧ Below w.heap.size w w' := by
  go_enter Try.func3, Try.ntmps3
  go_wp2_with fail
  refine (bump_nil w).mono ?_
  rintro e w' ⟨rfl, rfl⟩
  go_wp2_with fail
  refine (works11_any w).mono ?_
  rintro e w1 ⟨rfl, hb⟩
  have HB1 := Lib.hid hb
  clear hb
  dsimp only
  go_wp2_with fail
  refine (own_nil 0 0 w1).mono ?_
  rintro e w' ⟨rfl, rfl⟩
  dsimp only
  go_wp2_with fail
  refine (let_nil 0 0 w1).mono ?_
  rintro e w' ⟨rfl, rfl⟩
  dsimp only
  go_wp2_with fail
  refine (free_nil 0 0 0 w1).mono ?_
  rintro e w' ⟨rfl, rfl⟩
  dsimp only
  go_wp2_with fail
  refine (set_nil 0 0 w1).mono ?_
  rintro e w' ⟨rfl, rfl⟩
  dsimp only
  go_wp2_with fail
  refine (vars_nil w1).mono ?_
  rintro e w2 ⟨rfl, hb⟩
  have HB2 := Lib.hid (HB1.out.trans (hb.mono HB1.out.size))
  clear hb HB1
  dsimp only
  go_wp2_with fail
  refine (stripes_nil w2).mono ?_
  rintro e w3 ⟨rfl, hb⟩
  have HB3 := Lib.hid (HB2.out.trans (hb.mono HB2.out.size))
  clear hb HB2
  dsimp only
  go_wp2_with fail
  refine (clock_nil w3).mono ?_
  rintro e w4 ⟨rfl, hb⟩
  have HB4 := Lib.hid (HB3.out.trans (hb.mono HB3.out.size))
  clear hb HB3
  dsimp only
  go_wp2_with fail
  refine (limit_nil w4).mono ?_
  rintro e w5 ⟨rfl, hb⟩
  have HB5 := Lib.hid (HB4.out.trans (hb.mono HB4.out.size))
  clear hb HB4
  dsimp only
  go_wp2_with fail
  refine (stripe_nil 0 w5).mono ?_
  rintro e w6 ⟨rfl, hb⟩
  have HB6 := Lib.hid (HB5.out.trans (hb.mono HB5.out.size))
  clear hb HB5
  dsimp only
  go_wp2_with fail
  refine (howner_nil 0 w6).mono ?_
  rintro e w7 ⟨rfl, hb⟩
  have HB7 := Lib.hid (HB6.out.trans (hb.mono HB6.out.size))
  clear hb HB6
  dsimp only
  go_wp2_with fail
  refine (hversion_nil 0 w7).mono ?_
  rintro e w8 ⟨rfl, hb⟩
  have HB8 := Lib.hid (HB7.out.trans (hb.mono HB7.out.size))
  clear hb HB7
  dsimp only
  go_wp2_with fail
  refine (value_nil 0 w8).mono ?_
  rintro e w9 ⟨rfl, hb⟩
  have HB9 := Lib.hid (HB8.out.trans (hb.mono HB8.out.size))
  clear hb HB8
  dsimp only
  go_wp2_with fail
  refine (values_nil w9).mono ?_
  rintro e w10 ⟨A9, cap9, rfl, hb⟩
  have HB10 := Lib.hid (HB9.out.trans (hb.mono HB9.out.size))
  clear hb HB9
  dsimp only
  go_wp2_with fail
  refine (owners_nil w10).mono ?_
  rintro e w11 ⟨A10, cap10, rfl, hb⟩
  have HB11 := Lib.hid (HB10.out.trans (hb.mono HB10.out.size))
  clear hb HB10
  dsimp only
  go_wp2_with fail
  refine (versions_nil w11).mono ?_
  rintro e w12 ⟨A11, cap11, rfl, hb⟩
  have HB12 := Lib.hid (HB11.out.trans (hb.mono HB11.out.size))
  clear hb HB11
  dsimp only
  go_wp2_with fail
  refine (copy_nil w12).mono ?_
  rintro e w' ⟨rfl, rfl⟩
  dsimp only
  go_wp2_with fail
  refine (same_nils w12).mono ?_
  rintro e w' ⟨rfl, rfl⟩
  dsimp only
  go_wp2_with fail
  obtain ⟨gA, hgA⟩ : ∃ gA, gA = w12.heap.size := ⟨_, rfl⟩
  rw [← hgA]
  have HZ : Hid (w.heap.size ≤ gA) := by show _ ≤ _; rw [hgA]; exact HB12.out.size
  obtain ⟨W, hW⟩ : ∃ W, W = w12.alloc (.cells #[.int .i64 0, .int .i64 1, .int .i64 1, .int .i64 33, .int .i64 1, .int .i64 1, .int .i64 2, .int .i64 0, .int .i64 1, .int .i64 2, .int .i64 3, .int .i64 1, .int .i64 2, .int .i64 1, .int .i64 (-1), .int .i64 2, .int .i64 1, .int .i64 1099511627777] 39) := ⟨_, rfl⟩
  rw [← hW]
  have HR : Hid (W.heap[gA]? = some (.cells hnRow 39 (0, 0))) := by
    show _ = _
    rw [hW, hgA]
    exact heap_alloc_new w12 _
  have HBW : Hid (Below w.heap.size w W) := by show Below _ _ _; rw [hW]; exact HB12.out.alloc HB12.out.size _
  clear hW hgA HB12
  go_loopw [5, 6, 7, 117] (fun v5 v6 v7 i wr => ∃ k : Nat, k ≤ 6 ∧ i = .int .i64 k ∧ Hid (wr.heap[gA]? = some (.cells hnRow 39 (0, 0))) ∧ Hid (Below w.heap.size w wr)) (fun _ _ _ i _ => 6 - (intOf i).toNat)
  case atStart => exact ⟨0, by omega, by go_num, HR, HBW⟩
  case round =>
    obtain ⟨k, hk, rfl, hR, hB⟩ := hrel
    by_cases hlt : k < 6
    · obtain ⟨a1, a2, a3, a4, a5, a6⟩ := hn_at k hlt
      have c1 : wr.cell? ⟨gA, k * 3, none⟩ = some (.int .i64 (hnV k)) := (cell_of_row _ _ _ _ _ _ hR.out).trans a1
      have c2 : wr.cell? ⟨gA, k * 3 + 1, none⟩ = some (.int .i64 (hnS k)) := (cell_of_row _ _ _ _ _ _ hR.out).trans a2
      have c3 : wr.cell? ⟨gA, k * 3 + 2, none⟩ = some (.int .i64 (hnL k)) := (cell_of_row _ _ _ _ _ _ hR.out).trans a3
      obtain ⟨n, hn⟩ : ∃ n : Nat, hnV k = n := ⟨(hnV k).toNat, by omega⟩
      have HNB := Lib.hid (hnew_bad n (st := hnS k) (limit := hnL k) (by rw [hn] at a4; exact a4))
      rw [hn] at c1 a5 a6
      obtain ⟨st, hst⟩ : ∃ st, st = hnS k := ⟨_, rfl⟩
      obtain ⟨li, hli⟩ : ∃ li, li = hnL k := ⟨_, rfl⟩
      rw [← hst] at c2 HNB
      rw [← hli] at c3 HNB
      have i1 : (0 : Int) ≤ (k : Int) := by omega
      have i2 : (k : Int) < 6 := by omega
      have n1 : (n : Int) ≤ 33 := a6
      clear a1 a2 a3 a4 a5 a6 hn hst hli
      go_upto_region 8 with fail
      refine regQ (by kernel_rfl) _ (by show 261 ≤ 261; decide) _ wr.heap.size n st li (by omega) rfl (by simp) (World.cell?_alloc_mark wr _ _ (0, 0) 0) (World.cell?_alloc_mark wr _ _ (0, 0) 1) (World.cell?_alloc_mark wr _ _ (0, 0) 2) (fun A c w => HNB.out A c (by omega) w) ?_
      intro z0 z1 z2 z3 z4 z5 z6 z7 z8 z9 z10 w9 hb9
      have hb10 : Below wr.heap.size wr w9 := ((Below.refl wr.heap.size wr).alloc (Nat.le_refl _) _).trans (hb9.mono (by simp))
      have R9 : Hid (w9.heap[gA]? = some (.cells hnRow 39 (0, 0))) := (hb10.block gA (Array.getElem?_eq_some_iff.1 hR.out).1).trans hR.out
      have B9 := Lib.hid (hB.out.trans (hb10.mono hB.out.size))
      clear hb9 hb10 hR hB HNB c1 c2 c3
      simp only [putAll, List.setIfInBounds_toArray, List.set_cons_zero, List.set_cons_succ]
      go_wp2_with fail
      go_roundw
      case rel => exact ⟨k + 1, by omega, by go_num, R9, B9⟩
      case measure => simp [intOf]; omega
    · obtain rfl : k = 6 := by omega
      clear hR
      go_wp2_with (first
        | (refine wpList_plain rfl fun _ hK9 => hn_make 32 (by decide) _ rfl rfl fun w' hown hbm => hK9 _ _ ?_)
        | fail)
      have hbm0 : Below wr.heap.size wr w' := hbm
      have hI : Ints w' w'.heap.size (some ⟨wr.heap.size, 0, none⟩) (List.replicate 32 (0 : Int)) := by
        have hm : (madeCells (Value.int .i64 0).cells (32 * 1)).toList = (List.replicate 32 (0 : Int)).map (Value.int .i64) := by kernel_rfl
        have hown := hown
        rw [hm] at hown
        obtain ⟨A9, c9, e9, hi9⟩ := ints_ownH (L := List.replicate 32 (0 : Int)) (A := some ⟨wr.heap.size, 0, none⟩) (cap := 32) hown (by decide)
        injection e9 with e9 _ _
        rw [e9]
        exact hi9
      have HBA := Lib.hid (hB.out.trans (hbm0.mono hB.out.size))
      have HNY : Hid (Calls Try.prog 28 #[.slice (some ⟨wr.heap.size, 0, none⟩) 32 32, .int .i64 32, .int .i64 1099511627776] w' fun e w2 => ∃ g, e = .returned (.tuple #[.pointer (some ⟨g, 0, none⟩), .int .i64 0]) ∧ HeapAt w2 g (newF (List.replicate 32 (0 : Int)) 32 1099511627776) ∧ w'.heap.size ≤ g ∧ Below w'.heap.size w' w2) := hnew_yes (L := List.replicate 32 (0 : Int)) (st := 32) (limit := 1099511627776) (by kernel_rfl) 32 hI
      clear hI hown hbm hbm0
      refine HNY.out.mono ?_
      rintro e x0 ⟨g, rfl, hH, hg, hb⟩
      have B0 := Lib.hid (HBA.out.trans (hb.mono HBA.out.size))
      have HG : Hid (w.heap.size ≤ g) := by show _ ≤ _; have := HBA.out.size; omega
      have bb0 : HB (newF (List.replicate 32 (0 : Int)) 32 1099511627776) := HB.new (by kernel_rfl)
      obtain ⟨c0, hc0⟩ : ∃ c0, c0 = newF (List.replicate 32 (0 : Int)) 32 1099511627776 := ⟨_, rfl⟩
      rw [← hc0] at hH bb0
      have H0 := Lib.hid hH
      clear hH hg hb HNY HBA
      dsimp only
      have t := own_any H0.out bb0 32 9
      have et : ownE c0 32 9 = 5 := by rw [hc0]; kernel_rfl
      rw [et] at t
      have T := Lib.hid t
      clear t
      go_wp2_with fail
      refine T.out.mono ?_
      rintro e x1 ⟨rfl, hU⟩
      have B1 := Lib.hid (hU.below HG.out B0.out)
      have eC : ownC c0 32 9 = c0 := if_neg (by rw [et]; decide)
      rw [eC] at hU
      have H1 := Lib.hid hU.at'
      clear et eC T hU H0 B0
      dsimp only
      have t := own_any H1.out bb0 (-1) 0
      have et : ownE c0 (-1) 0 = 5 := by rw [hc0]; kernel_rfl
      rw [et] at t
      have T := Lib.hid t
      clear t
      go_wp2_with fail
      refine T.out.mono ?_
      rintro e x2 ⟨rfl, hU⟩
      have B2 := Lib.hid (hU.below HG.out B1.out)
      have eC : ownC c0 (-1) 0 = c0 := if_neg (by rw [et]; decide)
      rw [eC] at hU
      have H2 := Lib.hid hU.at'
      clear et eC T hU H1 B1
      dsimp only
      have t := own_any H2.out bb0 0 6
      have et : ownE c0 0 6 = 1 := by rw [hc0]; kernel_rfl
      rw [et] at t
      have T := Lib.hid t
      clear t
      go_wp2_with fail
      refine T.out.mono ?_
      rintro e x3 ⟨rfl, hU⟩
      have B3 := Lib.hid (hU.below HG.out B2.out)
      have eC : ownC c0 0 6 = c0 := if_neg (by rw [et]; decide)
      rw [eC] at hU
      have H3 := Lib.hid hU.at'
      clear et eC T hU H2 B2
      dsimp only
      have t := own_any H3.out bb0 0 (-1)
      have et : ownE c0 0 (-1) = 1 := by rw [hc0]; kernel_rfl
      rw [et] at t
      have T := Lib.hid t
      clear t
      go_wp2_with fail
      refine T.out.mono ?_
      rintro e x4 ⟨rfl, hU⟩
      have B4 := Lib.hid (hU.below HG.out B3.out)
      have eC : ownC c0 0 (-1) = c0 := if_neg (by rw [et]; decide)
      rw [eC] at hU
      have H4 := Lib.hid hU.at'
      clear et eC T hU H3 B3
      dsimp only
      have t := own_any H4.out bb0 0 5
      have et : ownE c0 0 5 = 0 := by rw [hc0]; kernel_rfl
      rw [et] at t
      have T := Lib.hid t
      clear t
      go_wp2_with fail
      refine T.out.mono ?_
      rintro e x5 ⟨rfl, hU⟩
      have B5 := Lib.hid (hU.below HG.out B4.out)
      obtain ⟨c1, hc1⟩ : ∃ c1, c1 = ownC c0 0 5 := ⟨_, rfl⟩
      have bb1 : HB c1 := by rw [hc1]; exact bb0.own 0 5
      rw [← hc1] at hU
      have H5 := Lib.hid hU.at'
      clear et T hU H4 B4
      dsimp only
      have t := let_any H5.out bb1 0 4
      have et : ownedE c1 0 4 = 7 := by rw [hc1, hc0]; kernel_rfl
      rw [et] at t
      have T := Lib.hid t
      clear t
      go_wp2_with fail
      refine T.out.mono ?_
      rintro e x6 ⟨rfl, hU⟩
      have B6 := Lib.hid (hU.below HG.out B5.out)
      have eC : letC c1 0 4 = c1 := if_neg (by rw [et]; decide)
      rw [eC] at hU
      have H6 := Lib.hid hU.at'
      clear et eC T hU H5 B5
      dsimp only
      have t := let_any H6.out bb1 0 (-1)
      have et : ownedE c1 0 (-1) = 7 := by rw [hc1, hc0]; kernel_rfl
      rw [et] at t
      have T := Lib.hid t
      clear t
      go_wp2_with fail
      refine T.out.mono ?_
      rintro e x7 ⟨rfl, hU⟩
      have B7 := Lib.hid (hU.below HG.out B6.out)
      have eC : letC c1 0 (-1) = c1 := if_neg (by rw [et]; decide)
      rw [eC] at hU
      have H7 := Lib.hid hU.at'
      clear et eC T hU H6 B6
      dsimp only
      have t := let_any H7.out bb1 1 (-1)
      have et : ownedE c1 1 (-1) = 7 := by rw [hc1, hc0]; kernel_rfl
      rw [et] at t
      have T := Lib.hid t
      clear t
      go_wp2_with fail
      refine T.out.mono ?_
      rintro e x8 ⟨rfl, hU⟩
      have B8 := Lib.hid (hU.below HG.out B7.out)
      have eC : letC c1 1 (-1) = c1 := if_neg (by rw [et]; decide)
      rw [eC] at hU
      have H8 := Lib.hid hU.at'
      clear et eC T hU H7 B7
      dsimp only
      have t := let_any H8.out bb1 32 0
      have et : ownedE c1 32 0 = 5 := by rw [hc1, hc0]; kernel_rfl
      rw [et] at t
      have T := Lib.hid t
      clear t
      go_wp2_with fail
      refine T.out.mono ?_
      rintro e x9 ⟨rfl, hU⟩
      have B9 := Lib.hid (hU.below HG.out B8.out)
      have eC : letC c1 32 0 = c1 := if_neg (by rw [et]; decide)
      rw [eC] at hU
      have H9 := Lib.hid hU.at'
      clear et eC T hU H8 B8
      dsimp only
      have t := free_any H9.out bb1 0 5 1
      have et : freeE c1 0 5 1 = 1 := by rw [hc1, hc0]; kernel_rfl
      rw [et] at t
      have T := Lib.hid t
      clear t
      go_wp2_with fail
      refine T.out.mono ?_
      rintro e x10 ⟨rfl, hU⟩
      have B10 := Lib.hid (hU.below HG.out B9.out)
      have eC : freeC c1 0 5 1 = c1 := if_neg (by rw [et]; decide)
      rw [eC] at hU
      have H10 := Lib.hid hU.at'
      clear et eC T hU H9 B9
      dsimp only
      have t := free_any H10.out bb1 0 5 (-1)
      have et : freeE c1 0 5 (-1) = 1 := by rw [hc1, hc0]; kernel_rfl
      rw [et] at t
      have T := Lib.hid t
      clear t
      go_wp2_with fail
      refine T.out.mono ?_
      rintro e x11 ⟨rfl, hU⟩
      have B11 := Lib.hid (hU.below HG.out B10.out)
      have eC : freeC c1 0 5 (-1) = c1 := if_neg (by rw [et]; decide)
      rw [eC] at hU
      have H11 := Lib.hid hU.at'
      clear et eC T hU H10 B10
      dsimp only
      have t := free_any H11.out bb1 0 5 0
      have et : freeE c1 0 5 0 = 0 := by rw [hc1, hc0]; kernel_rfl
      rw [et] at t
      have T := Lib.hid t
      clear t
      go_wp2_with fail
      refine T.out.mono ?_
      rintro e x12 ⟨rfl, hU⟩
      have B12 := Lib.hid (hU.below HG.out B11.out)
      obtain ⟨c2, hc2⟩ : ∃ c2, c2 = freeC c1 0 5 0 := ⟨_, rfl⟩
      have bb2 : HB c2 := by rw [hc2]; exact bb1.free 0 5 0
      rw [← hc2] at hU
      have H12 := Lib.hid hU.at'
      clear et T hU H11 B11
      dsimp only
      have t := free_any H12.out bb2 0 5 0
      have et : freeE c2 0 5 0 = 7 := by rw [hc2, hc1, hc0]; kernel_rfl
      rw [et] at t
      have T := Lib.hid t
      clear t
      go_wp2_with fail
      refine T.out.mono ?_
      rintro e x13 ⟨rfl, hU⟩
      have B13 := Lib.hid (hU.below HG.out B12.out)
      have eC : freeC c2 0 5 0 = c2 := if_neg (by rw [et]; decide)
      rw [eC] at hU
      have H13 := Lib.hid hU.at'
      clear et eC T hU H12 B12
      dsimp only
      have t := set_any11 H13.out bb2 32 1
      have et : setE c2 32 = 5 := by rw [hc2, hc1, hc0]; kernel_rfl
      rw [et] at t
      have T := Lib.hid t
      clear t
      go_wp2_with fail
      refine T.out.mono ?_
      rintro e x14 ⟨rfl, hU⟩
      have B14 := Lib.hid (hU.below HG.out B13.out)
      have eC : setC11 c2 32 1 = c2 := if_neg (fun h => by unfold setE at et; rw [if_pos h] at et; cases et)
      rw [eC] at hU
      have H14 := Lib.hid hU.at'
      clear et eC T hU H13 B13
      dsimp only
      have t := set_any11 H14.out bb2 (-1) 1
      have et : setE c2 (-1) = 5 := by rw [hc2, hc1, hc0]; kernel_rfl
      rw [et] at t
      have T := Lib.hid t
      clear t
      go_wp2_with fail
      refine T.out.mono ?_
      rintro e x15 ⟨rfl, hU⟩
      have B15 := Lib.hid (hU.below HG.out B14.out)
      have eC : setC11 c2 (-1) 1 = c2 := if_neg (fun h => by unfold setE at et; rw [if_pos h] at et; cases et)
      rw [eC] at hU
      have H15 := Lib.hid hU.at'
      clear et eC T hU H14 B14
      dsimp only
      have t := set_any11 H15.out bb2 31 1
      have et : setE c2 31 = 0 := by rw [hc2, hc1, hc0]; kernel_rfl
      rw [et] at t
      have T := Lib.hid t
      clear t
      go_wp2_with fail
      refine T.out.mono ?_
      rintro e x16 ⟨rfl, hU⟩
      have B16 := Lib.hid (hU.below HG.out B15.out)
      obtain ⟨c3, hc3⟩ : ∃ c3, c3 = setC11 c2 31 1 := ⟨_, rfl⟩
      have bb3 : HB c3 := by rw [hc3]; exact bb2.set 31 1
      rw [← hc3] at hU
      have H16 := Lib.hid hU.at'
      clear et T hU H15 B15
      dsimp only
      go_wp2_with fail
      refine (hcopy_any H16.out).mono ?_
      rintro e y1 ⟨rfl, hC1, b1⟩
      obtain ⟨gc, hgc⟩ : ∃ gc, gc = x16.heap.size := ⟨_, rfl⟩
      have HGC : Hid (g < gc ∧ w.heap.size ≤ gc) := ⟨by rw [hgc]; exact H16.out.lt, by rw [hgc]; exact B16.out.size⟩
      rw [← hgc] at hC1 ⊢
      have K1 := Lib.hid hC1
      have L1 := Lib.hid (H16.out.below b1 H16.out.lt)
      have D1 := Lib.hid (B16.out.trans (b1.mono B16.out.size))
      clear hC1 b1 hgc H16 B16
      dsimp only
      go_wp2_with fail
      refine (values_any K1.out bb3).mono ?_
      rintro e y2 ⟨A2, cap2, rfl, hI2, hO2, b2⟩
      have hlen : (valuesL c3).length = 32 := by rw [hc3, hc2, hc1, hc0]; kernel_rfl
      rw [hlen] at hO2 ⊢
      have K2 := Lib.hid (K1.out.below b2 K1.out.lt)
      have L2 := Lib.hid (L1.out.below b2 L1.out.lt)
      have D2 := Lib.hid (D1.out.trans (b2.mono D1.out.size))
      have HKL : Hid (gc < y1.heap.size) := K1.out.lt
      obtain ⟨gl, hgl, hgl2, cl, fl⟩ : ∃ gl, A2 = some ⟨gl, 0, none⟩ ∧ y1.heap.size ≤ gl ∧ (∃ u, y2.cell? ⟨gl, 0, none⟩ = some u) ∧ y2.frozen? ⟨gl, 0, none⟩ = false := by
        rcases hO2.2 with ⟨_, h0⟩ | ⟨gl, cap', cur, hv, hbg, hgr, h1, h2, h3, _⟩
        · omega
        · injection hv with e1 e2 e3
          exact ⟨gl, e1, hbg, ⟨cur[0]'(by omega), by simp [World.cell?, hgr]⟩, by simp [World.frozen?, hgr]⟩
      obtain ⟨cu, cl⟩ := cl
      subst hgl
      have hne1 : gl ≠ gc := by have := HKL.out; omega
      have hne2 : gl ≠ g := by have := HKL.out; have := HGC.out.1; omega
      have K3 : Hid (HeapAt (y2.setCell ⟨gl, 0, none⟩ (.int .i64 9)) gc c3) := K2.out.same (heap_set_other _ _ _ _ _ (Ne.symm hne1))
      have L3 : Hid (HeapAt (y2.setCell ⟨gl, 0, none⟩ (.int .i64 9)) g c3) := L2.out.same (heap_set_other _ _ _ _ _ (Ne.symm hne2))
      have D3 : Hid (Below w.heap.size w (y2.setCell ⟨gl, 0, none⟩ (.int .i64 9))) := D2.out.setCell (p := ⟨gl, 0, none⟩) (by have := D1.out.size; show w.heap.size ≤ gl; omega) _
      have SM := Lib.hid (same_any L3.out K3.out)
      clear hI2 hO2 b2 hlen K1 L1 D1 K2 L2 D2 HKL hne1 hne2 hgl2
      dsimp only
      go_wp2_with fail
      refine SM.out.mono ?_
      rintro e y4 ⟨r, rfl, hr, b4⟩
      obtain rfl : r = true := hr.2 (fun j _ => by first | rfl | trivial)
      have K4 := Lib.hid (K3.out.below b4 K3.out.lt)
      have L4 := Lib.hid (L3.out.below b4 L3.out.lt)
      have D4 := Lib.hid (D3.out.trans (b4.mono D3.out.size))
      clear hr b4 K3 L3 D3 SM cl fl
      have t := set_any11 K4.out bb3 3 4
      have et : setE c3 3 = 0 := by rw [hc3, hc2, hc1, hc0]; kernel_rfl
      rw [et] at t
      have T := Lib.hid t
      clear t et
      dsimp only
      go_wp2_with fail
      refine T.out.mono ?_
      rintro e y5 ⟨rfl, hU⟩
      obtain ⟨c9, hc9⟩ : ∃ c9, c9 = setC11 c3 3 4 := ⟨_, rfl⟩
      have bb9 : HB c9 := by rw [hc9]; exact bb3.set 3 4
      rw [← hc9] at hU
      have K5 := Lib.hid hU.at'
      have L5 := Lib.hid (L4.out.same (hU.far g (by have := HGC.out.1; omega)))
      have D5 := Lib.hid (D4.out.trans (hU.low _ HGC.out.2))
      have SM := Lib.hid (same_any L5.out K5.out)
      have HNE : Hid (c3 71 ≠ c9 71) := by
        show _ ≠ _
        rw [show c9 71 = 4 by rw [hc9, hc3, hc2, hc1, hc0]; kernel_rfl, show c3 71 = 0 by rw [hc3, hc2, hc1, hc0]; kernel_rfl]
        decide
      clear hU T K4 L4 D4
      dsimp only
      go_wp2_with fail
      refine SM.out.mono ?_
      rintro e y6 ⟨r, rfl, hr, b6⟩
      obtain rfl : r = false := by
        cases r
        · rfl
        · exact absurd (hr.1 rfl 71 (by decide)) HNE.out
      have K6 := Lib.hid (K5.out.below b6 K5.out.lt)
      have L6 := Lib.hid (L5.out.below b6 L5.out.lt)
      have D6 := Lib.hid (D5.out.trans (b6.mono D5.out.size))
      have v1 := value_any L6.out bb3 3
      have v2 := value_any K6.out bb9 0
      rw [show valueF c3 3 = 0 by rw [hc3, hc2, hc1, hc0]; kernel_rfl] at v1
      rw [show valueF c9 0 = 0 by rw [hc9, hc3, hc2, hc1, hc0]; kernel_rfl] at v2
      have V1 := Lib.hid v1
      have V2 := Lib.hid v2
      clear v1 v2 hr b6 K5 L5 D5 SM HNE
      dsimp only
      go_wp2_with fail
      refine V1.out.mono ?_
      rintro e w' ⟨rfl, rfl⟩
      dsimp only
      go_wp2_with fail
      refine V2.out.mono ?_
      rintro e w' ⟨rfl, rfl⟩
      dsimp only
      go_wp2_with fail
      refine (same_nil g _).mono ?_
      rintro e w' ⟨rfl, rfl⟩
      dsimp only
      go_wp2_with fail
      go_ret
      exact ⟨rfl, D6.out⟩
set_option maxRecDepth 100000 in
theorem HeapNames_lifted (os : Os) (started : os.Started) (H : Type) (enc : TypeId × Value → H) :
    ReturnsInHanded {} Try.checked os 3 .any (Rows.heapNamesSpec.pre6 enc Try.prog Try.f3 Rows.heapNamesRow.domain false) (Rows.heapNamesSpec.post enc Try.prog Try.f3 false true false false) := by
  refine returnsInHanded_of_change (C := Try.checked) lift_own started (by kernel_rfl) Try.func3
    (ChangeSpec.witness6 (enc := enc) (C := Try.checked) false ⟨#[], #[], []⟩ 8 (by kernel_rfl) (by kernel_rfl) (by kernel_rfl) (by kernel_rfl)) ?_
  intro W base args ds gs before hval0 hW hcnd _
  have hval : ∀ (j : Nat) t v, Try.f3.params[j]? = some t → args[j]? = some v → Value.okWide Try.prog W .any base t v := hval0
  have hW' := hW
  obtain ⟨p, q, hA0, hV, rfl, hfz, hnd⟩ := hW
  have hA : DataW.TrodAll enc Try.prog W 0 (fun _ => true) true Try.f3.params.toList args.toList ds p := hA0
  rw [Try.params3] at hA hval
  obtain ⟨hargs, rfl, rfl⟩ := trodAll_nil hA
  obtain rfl : args = #[] := by cases args; simp_all
  obtain ⟨rfl, rfl⟩ := trodVars_none hV
  clear hA0 hval0
  simp only [List.append_nil] at hW'
  refine (HeapNames_walk  W).mono fun e W' ⟨he, hg⟩ => ?_
  subst he
  exact ⟨_, rfl, lift_post (pa := []) (pv := []) hW' (fun _ _ _ => (trodAll_cons_mk (shut_bool Try.underlying4 _) trodAll_mk0)) (fun sp _ => trodAll_mk0) (fun _ _ => rfl) rfl
    hg (ok_one (by kernel_rfl) rfl (okWide_bool_mk Try.underlying4 _))⟩

/-- THE STATEMENT of HeapNames: for every input the call returns true, and each argument reads behind it as before. -/
theorem HeapNames_holds : Rows.HeapNamesSaid :=
  OpenClaim.holds_of_wide 3 Try.f3 rfl rfl rfl rfl rfl rfl rfl ⟨rfl, rfl, rfl, rfl, rfl⟩ rfl rfl rfl rfl rfl (by kernel_rfl) Try.func3 (by kernel_rfl)
    (of_decide_eq_true (by kernel_rfl)) (by unfold Func.isWrapper; first | (rw [if_pos (by decide +kernel)]; kernel_rfl) | (rw [if_neg (by decide +kernel)]; exact ⟨rfl, rfl⟩))
    (fun os started H enc _ => HeapNames_lifted os started H enc)
end Go.Proofs.Ytokhcogmoleocaa
