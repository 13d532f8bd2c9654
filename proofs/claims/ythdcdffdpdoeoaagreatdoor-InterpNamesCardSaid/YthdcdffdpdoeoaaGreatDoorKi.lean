/-
  THE WALK OF InterpNames (layer 9): the call returns true. Condition: the table of what each Kind asks lies as its initialiser lays it. (Laid by gen/gen_in.py.)
-/
import Derived.Test.YthdcdffdpdoeoaaGreatDoorZe
import Derived.Test.YthdcdffdpdoeoaaGreatDoorKh
import Derived.Deep.OwnRows
namespace Go.Proofs.YthdcdffdpdoeoaaGreatDoor
set_option maxRecDepth 100000
open Go.RowKit Go.Deep
set_option linter.unusedVariables false
set_option maxHeartbeats 16000000 in
theorem names9_any (w : World) (hkd : Kd w) : Calls Tryz.prog 3 #[] w fun e w' => e = .returned (.bool true) ∧ Below w.heap.size w w' := by
  have HKD := Lib.hid hkd
  clear hkd
  go_enter Tryz.func3, Tryz.ntmps3
  go_wp2_with fail
  refine (works9_any _ HKD.out).mono ?_
  rintro z w1 ⟨rfl, b1⟩
  have hq := eql_ask
  have hqn := neq_ask
  have hqe := neq_eight
  have B1 := Lib.hid b1
  clear b1
  go_wp2_with fail
  refine (nil_next _).mono ?_
  rintro z w2 ⟨rfl, b⟩
  have B2 := Lib.hid (B1.out.trans (b.mono B1.out.size))
  clear b B1
  go_wp2_with fail
  refine (nil_step _).mono ?_
  rintro z w3 ⟨rfl, b⟩
  have B3 := Lib.hid (B2.out.trans (b.mono B2.out.size))
  clear b B2
  go_wp2_with fail
  refine (nil_answer _ _).mono ?_
  rintro z w4 ⟨rfl, b⟩
  have B4 := Lib.hid (B3.out.trans (b.mono B3.out.size))
  clear b B3
  go_wp2_with fail
  refine (nil_writes _).mono ?_
  rintro z w5 ⟨rfl, b⟩
  have B5 := Lib.hid (B4.out.trans (b.mono B4.out.size))
  clear b B4
  go_wp2_with fail
  refine (nil_steps _).mono ?_
  rintro z w6 ⟨rfl, b⟩
  have B6 := Lib.hid (B5.out.trans (b.mono B5.out.size))
  clear b B5
  go_wp2_with fail
  refine (nil_copy _).mono ?_
  rintro z w7 ⟨rfl, b⟩
  have B7 := Lib.hid (B6.out.trans (b.mono B6.out.size))
  clear b B6
  go_wp2_with fail
  refine (nil_locals _).mono ?_
  rintro z w8 ⟨rfl, b⟩
  have B8 := Lib.hid (B7.out.trans (b.mono B7.out.size))
  clear b B7
  go_wp2_with fail
  refine (new_arg 0 (by omega) (by rw [wf_iff]; omega) _ _ _ _ _ _ _).mono ?_
  rintro z w9 ⟨rfl, b⟩
  have B9 := Lib.hid (B8.out.trans (b.mono B8.out.size))
  clear b B8
  go_wp2_with fail
  refine (new_arg 33 (by omega) (by rw [wf_iff]; omega) _ _ _ _ _ _ _).mono ?_
  rintro z w10 ⟨rfl, b⟩
  have B10 := Lib.hid (B9.out.trans (b.mono B9.out.size))
  clear b B9
  go_wp2_with fail
  have hsk : SK (w10.alloc (.cells #[.int .u8 0, .int .i64 0, .int .u8 0, .int .i64 0, .slice none 0 0, .int .u8 0, .int .i64 0, .slice none 0 0, .slice none 0 0, .slice none 0 0] 43)) 2 (some ⟨w10.heap.size, 0, none⟩) [.node 0 0 xNo xNo [] []] := sk_new w10 (D := 2) [⟨0, 0, 0, 0, none, 0, 0, 0, 0, none, 0, 0, none, 0, 0, none, 0, 0⟩] [.node 0 0 xNo xNo [] []] ⟨sa_lf _ 0 0 0 0 0 0 0 (by decide), trivial⟩ _ rfl
  have hbw : Below w10.heap.size w10 (w10.alloc (.cells #[.int .u8 0, .int .i64 0, .int .u8 0, .int .i64 0, .slice none 0 0, .int .u8 0, .int .i64 0, .slice none 0 0, .slice none 0 0, .slice none 0 0] 43)) := (Below.refl _ _).alloc (Nat.le_refl _) _
  obtain ⟨W10, hW⟩ : ∃ W, W = w10.alloc (.cells #[.int .u8 0, .int .i64 0, .int .u8 0, .int .i64 0, .slice none 0 0, .int .u8 0, .int .i64 0, .slice none 0 0, .slice none 0 0, .slice none 0 0] 43) := ⟨_, rfl⟩
  rw [← hW] at hsk hbw ⊢
  have BW10 := Lib.hid (B10.out.trans (hbw.mono B10.out.size))
  have HNF := Lib.hid (new_form 2 (some ⟨w10.heap.size, 0, none⟩) 1 [.node 0 0 xNo xNo [] []] 1 none 0 0 W10 (HKD.out.below BW10.out (Nat.le_refl _)) hsk (by decide) (by decide) (by decide) (by decide) (by decide) (by kernel_rfl))
  clear hW hsk hbw B10
  refine HNF.out.mono ?_
  rintro z w11 ⟨rfl, b⟩
  have B11 := Lib.hid (BW10.out.trans (b.mono BW10.out.size))
  clear b BW10 HNF
  have hmk : ∀ W : World, (Instr.makeSlice 44 (.int .i64 6) (.int .i64 6)).run Tryz.prog W = .ok (.slice (some ⟨W.heap.size, 0, none⟩) 6 6) (W.alloc (.cells (madeCells #[.int .i64 0] 6) 2)) := fun W => run_make_row' (P := Tryz.prog) 44 2 (.int .i64 0) 8 Tryz.underlying44 (by kernel_rfl) rfl .i64 .i64 6 (by decide) (by decide) W
  go_wp2_with fail
  clear hmk
  have hbw : Below w11.heap.size w11 (w11.alloc (.cells (madeCells #[.int .i64 0] 6) 2)) := (Below.refl _ _).alloc (Nat.le_refl _) _
  have BW11 := Lib.hid (B11.out.trans (hbw.mono B11.out.size))
  have HNF := Lib.hid (new_form 1 none 0 [] 1 (some ⟨w11.heap.size, 0, none⟩) 6 6 _ (HKD.out.below BW11.out (Nat.le_refl _)) (SK.nil _ _ _) (by decide) (by decide) (by decide) (by decide) (by decide) (by kernel_rfl))
  clear hbw B11
  refine HNF.out.mono ?_
  rintro z w12 ⟨rfl, b⟩
  have B12 := Lib.hid (BW11.out.trans (b.mono BW11.out.size))
  clear b BW11 HNF
  go_wp2_with fail
  obtain ⟨W0, hW⟩ : ∃ W, W = w12.alloc (.cells #[.int .u8 6, .int .i64 0, .int .u8 0, .int .i64 0, .slice none 0 0, .int .u8 0, .int .i64 0, .slice none 0 0, .slice none 0 0, .slice none 0 0] 43) := ⟨_, rfl⟩
  have hbw : Below w12.heap.size w12 W0 := by rw [hW]; exact (Below.refl _ _).alloc (Nat.le_refl _) _
  have ht : Ten W0 ⟨w12.heap.size, 0, none⟩ ⟨6, 0, 0, 0, none, 0, 0, 0, 0, none, 0, 0, none, 0, 0, none, 0, 0⟩ := by rw [hW]; exact Ten.new w12 ⟨6, 0, 0, 0, none, 0, 0, 0, 0, none, 0, 0, none, 0, 0, none, 0, 0⟩
  have hz : W0.heap.size = w12.heap.size + 1 := by rw [hW]; simp
  rw [← hW]
  have B0 := Lib.hid (B12.out.trans (hbw.mono B12.out.size))
  obtain ⟨gR, hgR⟩ : ∃ g, g = w12.heap.size := ⟨_, rfl⟩
  rw [← hgR] at ht ⊢
  have HT0 := Lib.hid ht
  have HL0 : Hid (gR < W0.heap.size) := by show _ < _; omega
  clear hW hbw ht hz hgR B12
  refine reg9_12 (by kernel_rfl) _ (by show 322 ≤ 322; decide) W0 (HKD.out.below B0.out (Nat.le_refl _)) rfl gR rfl HL0.out HT0.out (sa_lf W0 0 6 0 0 0 0 0 (by decide)) ?_
  intro uA0 uA1 uA2 uA3 uA4 uA5 uA6 uA7 uA8 uA9 uA10 uA11 uA12 uA13 uA14 uA15 uA16 uA17 uA18 gA WA DA dA VA vnA vcA b hg hr hp
  simp only [putAll, List.setIfInBounds_toArray, List.set_cons_zero, List.set_cons_succ]
  have HEA := Lib.hid hr
  have HPA := Lib.hid hp
  have BA := Lib.hid (B0.out.trans (b.mono B0.out.size))
  have HTA := Lib.hid (HT0.out.below b HL0.out)
  have HLA : Hid (gR < WA.heap.size) := Nat.lt_of_lt_of_le HL0.out b.size
  have StA := Lib.hid b
  clear b hg hr hp HT0 HL0 B0
  have c0 : WA.cell? ⟨gR, 0, none⟩ = some (.int .u8 6) := HTA.out.c0
  have c1 : WA.cell? ⟨gR, 1, none⟩ = some (.int .i64 0) := HTA.out.c1
  have c2 : WA.cell? ⟨gR, 2, none⟩ = some (.int .u8 0) := HTA.out.c2
  have c3 : WA.cell? ⟨gR, 3, none⟩ = some (.int .i64 0) := HTA.out.c3
  have c4 : WA.cell? ⟨gR, 4, none⟩ = some (.slice none 0 0) := HTA.out.c4
  have c5 : WA.cell? ⟨gR, 5, none⟩ = some (.int .u8 0) := HTA.out.c5
  have c6 : WA.cell? ⟨gR, 6, none⟩ = some (.int .i64 0) := HTA.out.c6
  have c7 : WA.cell? ⟨gR, 7, none⟩ = some (.slice none 0 0) := HTA.out.c7
  have c8 : WA.cell? ⟨gR, 8, none⟩ = some (.slice none 0 0) := HTA.out.c8
  have c9 : WA.cell? ⟨gR, 9, none⟩ = some (.slice none 0 0) := HTA.out.c9
  have e0 : ∀ o, (WA.alloc o).cell? ⟨gR, 0, none⟩ = some (.int .u8 6) := fun o => (((Below.refl WA.heap.size WA).alloc (Nat.le_refl _) o).cell (p := ⟨gR, 0, none⟩) HLA.out).trans c0
  have e1 : ∀ o, (WA.alloc o).cell? ⟨gR, 1, none⟩ = some (.int .i64 0) := fun o => (((Below.refl WA.heap.size WA).alloc (Nat.le_refl _) o).cell (p := ⟨gR, 1, none⟩) HLA.out).trans c1
  have e2 : ∀ o, (WA.alloc o).cell? ⟨gR, 2, none⟩ = some (.int .u8 0) := fun o => (((Below.refl WA.heap.size WA).alloc (Nat.le_refl _) o).cell (p := ⟨gR, 2, none⟩) HLA.out).trans c2
  have e3 : ∀ o, (WA.alloc o).cell? ⟨gR, 3, none⟩ = some (.int .i64 0) := fun o => (((Below.refl WA.heap.size WA).alloc (Nat.le_refl _) o).cell (p := ⟨gR, 3, none⟩) HLA.out).trans c3
  have e4 : ∀ o, (WA.alloc o).cell? ⟨gR, 4, none⟩ = some (.slice none 0 0) := fun o => (((Below.refl WA.heap.size WA).alloc (Nat.le_refl _) o).cell (p := ⟨gR, 4, none⟩) HLA.out).trans c4
  have e5 : ∀ o, (WA.alloc o).cell? ⟨gR, 5, none⟩ = some (.int .u8 0) := fun o => (((Below.refl WA.heap.size WA).alloc (Nat.le_refl _) o).cell (p := ⟨gR, 5, none⟩) HLA.out).trans c5
  have e6 : ∀ o, (WA.alloc o).cell? ⟨gR, 6, none⟩ = some (.int .i64 0) := fun o => (((Below.refl WA.heap.size WA).alloc (Nat.le_refl _) o).cell (p := ⟨gR, 6, none⟩) HLA.out).trans c6
  have e7 : ∀ o, (WA.alloc o).cell? ⟨gR, 7, none⟩ = some (.slice none 0 0) := fun o => (((Below.refl WA.heap.size WA).alloc (Nat.le_refl _) o).cell (p := ⟨gR, 7, none⟩) HLA.out).trans c7
  have e8 : ∀ o, (WA.alloc o).cell? ⟨gR, 8, none⟩ = some (.slice none 0 0) := fun o => (((Below.refl WA.heap.size WA).alloc (Nat.le_refl _) o).cell (p := ⟨gR, 8, none⟩) HLA.out).trans c8
  have e9 : ∀ o, (WA.alloc o).cell? ⟨gR, 9, none⟩ = some (.slice none 0 0) := fun o => (((Below.refl WA.heap.size WA).alloc (Nat.le_refl _) o).cell (p := ⟨gR, 9, none⟩) HLA.out).trans c9
  have k1 := sk_new WA (D := 3) [⟨6, 0, 0, 0, none, 0, 0, 0, 0, none, 0, 0, none, 0, 0, none, 0, 0⟩] [jRetry] ⟨sa_lf _ 1 6 0 0 0 0 0 (by decide), trivial⟩ _ rfl
  have k2 := sk_new (WA.alloc (.cells (rowR [⟨6, 0, 0, 0, none, 0, 0, 0, 0, none, 0, 0, none, 0, 0, none, 0, 0⟩]).toArray 43)) (D := 3) [⟨6, 0, 0, 0, none, 0, 0, 0, 0, none, 0, 0, none, 0, 0, none, 0, 0⟩] [jRetry] ⟨sa_lf _ 1 6 0 0 0 0 0 (by decide), trivial⟩ _ rfl
  rw [World.size_alloc] at k2
  have x1 : Below WA.heap.size WA (WA.alloc (.cells (rowR [⟨6, 0, 0, 0, none, 0, 0, 0, 0, none, 0, 0, none, 0, 0, none, 0, 0⟩]).toArray 43)) := (Below.refl _ _).alloc (Nat.le_refl _) _
  have x2 : Below (WA.heap.size + 1) (WA.alloc (.cells (rowR [⟨6, 0, 0, 0, none, 0, 0, 0, 0, none, 0, 0, none, 0, 0, none, 0, 0⟩]).toArray 43)) ((WA.alloc (.cells (rowR [⟨6, 0, 0, 0, none, 0, 0, 0, 0, none, 0, 0, none, 0, 0, none, 0, 0⟩]).toArray 43)).alloc (.cells (rowR [⟨6, 0, 0, 0, none, 0, 0, 0, 0, none, 0, 0, none, 0, 0, none, 0, 0⟩]).toArray 43)) := (Below.refl _ _).alloc (by simp) _
  have k1 := k1.below (x2.mono (by simp))
  obtain ⟨X2, hX⟩ : ∃ W, W = (WA.alloc (.cells (rowR [⟨6, 0, 0, 0, none, 0, 0, 0, 0, none, 0, 0, none, 0, 0, none, 0, 0⟩]).toArray 43)).alloc (.cells (rowR [⟨6, 0, 0, 0, none, 0, 0, 0, 0, none, 0, 0, none, 0, 0, none, 0, 0⟩]).toArray 43) := ⟨_, rfl⟩
  rw [← hX] at k1 k2 x2
  have K1 := Lib.hid k1
  have K2 := Lib.hid k2
  have CH := Lib.hid (x1.trans (x2.mono (by omega)))
  have HX : Hid (X2 = (WA.alloc (.cells #[.int .u8 6, .int .i64 0, .int .u8 0, .int .i64 0, .slice none 0 0, .int .u8 0, .int .i64 0, .slice none 0 0, .slice none 0 0, .slice none 0 0] 43)).alloc (.cells #[.int .u8 6, .int .i64 0, .int .u8 0, .int .i64 0, .slice none 0 0, .int .u8 0, .int .i64 0, .slice none 0 0, .slice none 0 0, .slice none 0 0] 43)) := hX
  clear k1 k2 x1 x2 hX
  go_wp2_with fail
  rw [← HX.out]
  refine (jor_any (some ⟨WA.heap.size, 0, none⟩) 1 1 (some ⟨WA.heap.size + 1, 0, none⟩) 1 1 _).mono ?_
  rintro z w1 ⟨rfl, b1⟩
  have K1 := Lib.hid (K1.out.below b1)
  have K2 := Lib.hid (K2.out.below b1)
  have CH := Lib.hid (CH.out.trans (b1.mono CH.out.size))
  have B1 := Lib.hid (BA.out.trans (CH.out.mono BA.out.size))
  clear b1 HX c0 c1 c2 c3 c4 c5 c6 c7 c8 c9 e0 e1 e2 e3 e4 e5 e6 e7 e8 e9
  dsimp only
  go_wp2_with fail
  refine (jof_any _ _ _ _).mono ?_
  rintro z w2 ⟨rfl, rfl⟩
  dsimp only
  go_wp2_with fail
  refine (run_nil w1 (HKD.out.below B1.out (Nat.le_refl _)) (D := 4) [⟨7, 0, 0, 0, none, 0, 0, 0, 0, none, 0, 0, some ⟨WA.heap.size, 0, none⟩, 1, 1, some ⟨WA.heap.size + 1, 0, none⟩, 1, 1⟩] txB ⟨sa_mk (at_lf _ 2 0 0 (by decide)) (at_lf _ 2 0 0 (by decide)) K1.out K2.out (by decide) (by decide), trivial⟩ (by decide) (by decide) _ rfl 1 1 rfl 4 (by decide) (by decide) (by kernel_rfl) runB (by decide) (w1.heap.size + 1) rfl).mono ?_
  rintro z w3 ⟨DB, dB, VB, vnB, vcB, rfl, hp3, b3⟩
  have CH := Lib.hid (CH.out.trans (b3.mono CH.out.size))
  clear hp3 b3 K1 K2 B1
  dsimp only
  go_wp2_with fail
  obtain ⟨WB, hW⟩ : ∃ W, W = w3.alloc (.cells #[.int .u8 4, .int .i64 0, .int .i64 0, .slice DB 0 dB, .int .i64 0, .int .i64 0, .int .i64 0, .int .i64 0, .int .i64 0, .int .i64 0, .int .i64 0, .int .i64 0, .int .i64 2, .slice VB vnB vcB, .bool true] 48) := ⟨_, rfl⟩
  have hbw : Below w3.heap.size w3 WB := by rw [hW]; exact (Below.refl _ _).alloc (Nat.le_refl _) _
  have hr : WB.heap[w3.heap.size]? = some (.cells #[.int .u8 4, .int .i64 0, .int .i64 0, .slice DB 0 dB, .int .i64 0, .int .i64 0, .int .i64 0, .int .i64 0, .int .i64 0, .int .i64 0, .int .i64 0, .int .i64 0, .int .i64 2, .slice VB vnB vcB, .bool true] 48 (0, 0)) := by rw [hW]; exact World.alloc_heap_new w3 _
  rw [← hW]
  obtain ⟨gB, hgB⟩ : ∃ g, g = w3.heap.size := ⟨_, rfl⟩
  rw [← hgB] at hr ⊢
  have HEB := Lib.hid hr
  have b := CH.out.trans (hbw.mono CH.out.size)
  have BB := Lib.hid (BA.out.trans (b.mono BA.out.size))
  have HTB := Lib.hid (HTA.out.below b HLA.out)
  have HLB : Hid (gR < WB.heap.size) := Nat.lt_of_lt_of_le HLA.out b.size
  have StB := Lib.hid b
  clear hW hbw hr hgB b CH HTA HLA BA
  refine (jlit_any 5 _).mono ?_
  rintro z w1 ⟨rfl, b1⟩
  have CH := Lib.hid b1
  clear b1
  dsimp only
  go_wp2_with fail
  refine (jwrite_any 1 1 5 none 0 0 _).mono ?_
  rintro z w2 ⟨rfl, b2⟩
  have CH := Lib.hid (CH.out.trans (b2.mono CH.out.size))
  clear b2
  dsimp only
  go_wp2_with fail
  refine (jread_any 2 1 _).mono ?_
  rintro z w3 ⟨rfl, b3⟩
  have CH := Lib.hid (CH.out.trans (b3.mono CH.out.size))
  clear b3
  dsimp only
  go_wp2_with fail
  have hsk := sk_new w3 (D := 3) [⟨3, 0, 1, 1, none, 0, 0, 1, 5, none, 0, 0, none, 0, 0, none, 0, 0⟩, ⟨2, 2, 1, 1, none, 0, 0, 0, 0, none, 0, 0, none, 0, 0, none, 0, 0⟩] [jWrite 1 (xLit 5), jRead 2 1] ⟨sa_lf _ 1 3 0 1 1 1 5 (by decide), sa_lf _ 1 2 2 1 1 0 0 (by decide), trivial⟩ _ rfl
  have hsk : SK (w3.alloc (.cells #[.int .u8 3, .int .i64 0, .int .u8 1, .int .i64 1, .slice none 0 0, .int .u8 1, .int .i64 5, .slice none 0 0, .slice none 0 0, .slice none 0 0, .int .u8 2, .int .i64 2, .int .u8 1, .int .i64 1, .slice none 0 0, .int .u8 0, .int .i64 0, .slice none 0 0, .slice none 0 0, .slice none 0 0] 43)) 3 (some ⟨w3.heap.size, 0, none⟩) [jWrite 1 (xLit 5), jRead 2 1] := hsk
  have hbw : Below w3.heap.size w3 (w3.alloc (.cells #[.int .u8 3, .int .i64 0, .int .u8 1, .int .i64 1, .slice none 0 0, .int .u8 1, .int .i64 5, .slice none 0 0, .slice none 0 0, .slice none 0 0, .int .u8 2, .int .i64 2, .int .u8 1, .int .i64 1, .slice none 0 0, .int .u8 0, .int .i64 0, .slice none 0 0, .slice none 0 0, .slice none 0 0] 43)) := (Below.refl _ _).alloc (Nat.le_refl _) _
  have hzw : (w3.alloc (.cells #[.int .u8 3, .int .i64 0, .int .u8 1, .int .i64 1, .slice none 0 0, .int .u8 1, .int .i64 5, .slice none 0 0, .slice none 0 0, .slice none 0 0, .int .u8 2, .int .i64 2, .int .u8 1, .int .i64 1, .slice none 0 0, .int .u8 0, .int .i64 0, .slice none 0 0, .slice none 0 0, .slice none 0 0] 43)).heap.size = w3.heap.size + 1 := by simp
  obtain ⟨X1, hW⟩ : ∃ W, W = w3.alloc (.cells #[.int .u8 3, .int .i64 0, .int .u8 1, .int .i64 1, .slice none 0 0, .int .u8 1, .int .i64 5, .slice none 0 0, .slice none 0 0, .slice none 0 0, .int .u8 2, .int .i64 2, .int .u8 1, .int .i64 1, .slice none 0 0, .int .u8 0, .int .i64 0, .slice none 0 0, .slice none 0 0, .slice none 0 0] 43) := ⟨_, rfl⟩
  rw [← hW] at hsk hbw hzw ⊢
  have K1 := Lib.hid hsk
  have CH := Lib.hid (CH.out.trans (hbw.mono CH.out.size))
  have HZ := Lib.hid hzw
  clear hW hsk hbw hzw
  refine (jlit_any 1 _).mono ?_
  rintro z w4 ⟨rfl, b4⟩
  have K1 := Lib.hid (K1.out.below b4)
  have CH := Lib.hid (CH.out.trans (b4.mono CH.out.size))
  clear b4
  dsimp only
  go_wp2_with fail
  refine (jback_any 1 1 none 0 0 _).mono ?_
  rintro z w5 ⟨rfl, b5⟩
  have K1 := Lib.hid (K1.out.below b5)
  have CH := Lib.hid (CH.out.trans (b5.mono CH.out.size))
  clear b5 HZ
  dsimp only
  go_wp2_with fail
  have hsk := sk_new w5 (D := 3) [⟨8, 0, 1, 1, none, 0, 0, 0, 0, none, 0, 0, none, 0, 0, none, 0, 0⟩] [jBack (xLit 1)] ⟨sa_lf _ 1 8 0 1 1 0 0 (by decide), trivial⟩ _ rfl
  have hsk : SK (w5.alloc (.cells #[.int .u8 8, .int .i64 0, .int .u8 1, .int .i64 1, .slice none 0 0, .int .u8 0, .int .i64 0, .slice none 0 0, .slice none 0 0, .slice none 0 0] 43)) 3 (some ⟨w5.heap.size, 0, none⟩) [jBack (xLit 1)] := hsk
  have hbw : Below w5.heap.size w5 (w5.alloc (.cells #[.int .u8 8, .int .i64 0, .int .u8 1, .int .i64 1, .slice none 0 0, .int .u8 0, .int .i64 0, .slice none 0 0, .slice none 0 0, .slice none 0 0] 43)) := (Below.refl _ _).alloc (Nat.le_refl _) _
  have hzw : (w5.alloc (.cells #[.int .u8 8, .int .i64 0, .int .u8 1, .int .i64 1, .slice none 0 0, .int .u8 0, .int .i64 0, .slice none 0 0, .slice none 0 0, .slice none 0 0] 43)).heap.size = w5.heap.size + 1 := by simp
  obtain ⟨X2, hW⟩ : ∃ W, W = w5.alloc (.cells #[.int .u8 8, .int .i64 0, .int .u8 1, .int .i64 1, .slice none 0 0, .int .u8 0, .int .i64 0, .slice none 0 0, .slice none 0 0, .slice none 0 0] 43) := ⟨_, rfl⟩
  rw [← hW] at hsk hbw hzw ⊢
  have K2 := Lib.hid hsk
  have CH := Lib.hid (CH.out.trans (hbw.mono CH.out.size))
  have K1 := Lib.hid (K1.out.below hbw)
  have HZ := Lib.hid hzw
  clear hW hsk hbw hzw
  refine (jor_any (some ⟨w3.heap.size, 0, none⟩) 2 2 (some ⟨w5.heap.size, 0, none⟩) 1 1 _).mono ?_
  rintro z w6 ⟨rfl, b6⟩
  have K1 := Lib.hid (K1.out.below b6)
  have K2 := Lib.hid (K2.out.below b6)
  have CH := Lib.hid (CH.out.trans (b6.mono CH.out.size))
  clear b6 HZ
  dsimp only
  go_wp2_with fail
  refine (jlocal_any 2 _).mono ?_
  rintro z w7 ⟨rfl, b7⟩
  have K1 := Lib.hid (K1.out.below b7)
  have K2 := Lib.hid (K2.out.below b7)
  have CH := Lib.hid (CH.out.trans (b7.mono CH.out.size))
  clear b7
  dsimp only
  go_wp2_with fail
  refine (jback_any 2 2 none 0 0 _).mono ?_
  rintro z w8 ⟨rfl, b8⟩
  have K1 := Lib.hid (K1.out.below b8)
  have K2 := Lib.hid (K2.out.below b8)
  have CH := Lib.hid (CH.out.trans (b8.mono CH.out.size))
  have B8 := Lib.hid (BB.out.trans (CH.out.mono BB.out.size))
  clear b8
  dsimp only
  go_wp2_with fail
  refine (jof_any _ _ _ _).mono ?_
  rintro z w9 ⟨rfl, rfl⟩
  dsimp only
  go_wp2_with fail
  refine (run_nil w8 (HKD.out.below B8.out (Nat.le_refl _)) (D := 4) [⟨7, 0, 0, 0, none, 0, 0, 0, 0, none, 0, 0, some ⟨w3.heap.size, 0, none⟩, 2, 2, some ⟨w5.heap.size, 0, none⟩, 1, 1⟩, ⟨8, 0, 2, 2, none, 0, 0, 0, 0, none, 0, 0, none, 0, 0, none, 0, 0⟩] txC ⟨sa_mk (at_lf _ 2 0 0 (by decide)) (at_lf _ 2 0 0 (by decide)) K1.out K2.out (by decide) (by decide), sa_lf _ 2 8 0 2 2 0 0 (by decide), trivial⟩ (by decide) (by decide) _ rfl 2 2 rfl 4 (by decide) (by decide) (by kernel_rfl) runC (by decide) (w8.heap.size + 1) rfl).mono ?_
  rintro z w10 ⟨DC, dC, VC, vnC, vcC, rfl, hp, b10⟩
  have CH := Lib.hid (CH.out.trans (b10.mono CH.out.size))
  clear hp b10 K1 K2 B8
  dsimp only
  go_upto_region 15 with fail
  obtain ⟨WC, hW⟩ : ∃ W, W = w10.alloc (.cells #[.int .u8 3, .int .i64 0, .int .i64 5, .slice DC 1 dC, .int .i64 0, .int .i64 0, .int .i64 5, .int .i64 0, .int .i64 0, .int .i64 0, .int .i64 0, .int .i64 0, .int .i64 3, .slice VC vnC vcC, .bool true] 48) := ⟨_, rfl⟩
  have hbw : Below w10.heap.size w10 WC := by rw [hW]; exact (Below.refl _ _).alloc (Nat.le_refl _) _
  have hr : WC.heap[w10.heap.size]? = some (.cells #[.int .u8 3, .int .i64 0, .int .i64 5, .slice DC 1 dC, .int .i64 0, .int .i64 0, .int .i64 5, .int .i64 0, .int .i64 0, .int .i64 0, .int .i64 0, .int .i64 0, .int .i64 3, .slice VC vnC vcC, .bool true] 48 (0, 0)) := by rw [hW]; exact World.alloc_heap_new w10 _
  rw [← hW]
  obtain ⟨gC, hgC⟩ : ∃ g, g = w10.heap.size := ⟨_, rfl⟩
  rw [← hgC] at hr ⊢
  have HEC := Lib.hid hr
  have b := CH.out.trans (hbw.mono CH.out.size)
  have BC := Lib.hid (BB.out.trans (b.mono BB.out.size))
  have HTC := Lib.hid (HTB.out.below b HLB.out)
  have HLC : Hid (gR < WC.heap.size) := Nat.lt_of_lt_of_le HLB.out b.size
  have StC := Lib.hid b
  clear hW hbw hr hgC b CH HTB HLB BB
  refine reg9_15 (by kernel_rfl) _ (by show 322 ≤ 322; decide) WC (HKD.out.below BC.out (Nat.le_refl _)) rfl gR rfl HLC.out HTC.out (sa_lf WC 0 6 0 0 0 0 0 (by decide)) ?_
  intro uD0 uD1 uD2 uD3 uD4 uD5 uD6 uD7 uD8 uD9 uD10 uD11 uD12 gD WD DD dD VD vnD vcD b hg hr
  simp only [putAll, List.setIfInBounds_toArray, List.set_cons_zero, List.set_cons_succ]
  have HED := Lib.hid hr
  have BD := Lib.hid (BC.out.trans (b.mono BC.out.size))
  have HTD := Lib.hid (HTC.out.below b HLC.out)
  have HLD : Hid (gR < WD.heap.size) := Nat.lt_of_lt_of_le HLC.out b.size
  have StD := Lib.hid b
  clear b hg hr HTC HLC BC
  go_wp2_with fail
  refine (jlocal_any 3 _).mono ?_
  rintro z w1 ⟨rfl, b1⟩
  have CH := Lib.hid b1
  clear b1
  dsimp only
  go_wp2_with fail
  refine (jlit_any 1 _).mono ?_
  rintro z w2 ⟨rfl, b2⟩
  have CH := Lib.hid (CH.out.trans (b2.mono CH.out.size))
  clear b2
  dsimp only
  go_wp2_with fail
  refine (jplus_any 2 3 none 0 0 1 1 none 0 0 _).mono ?_
  rintro z w3 ⟨gP, rfl, hp0, hp, b3⟩
  have CH := Lib.hid (CH.out.trans (b3.mono CH.out.size))
  have HP3 := Lib.hid hp
  clear b3 hp hp0
  dsimp only
  go_upto_region 17 with fail
  obtain ⟨WT, hW⟩ : ∃ W, W = w3.alloc (.cells #[.int .u8 1, .int .i64 3, .int .u8 4, .int .i64 0, .slice (some ⟨gP, 0, none⟩) 2 2, .int .u8 0, .int .i64 0, .slice none 0 0, .slice none 0 0, .slice none 0 0] 43) := ⟨_, rfl⟩
  have hbw : Below w3.heap.size w3 WT := by rw [hW]; exact (Below.refl _ _).alloc (Nat.le_refl _) _
  have ht : Ten WT ⟨w3.heap.size, 0, none⟩ ⟨1, 3, 4, 0, some ⟨gP, 0, none⟩, 2, 2, 0, 0, none, 0, 0, none, 0, 0, none, 0, 0⟩ := by rw [hW]; exact Ten.new w3 ⟨1, 3, 4, 0, some ⟨gP, 0, none⟩, 2, 2, 0, 0, none, 0, 0, none, 0, 0, none, 0, 0⟩
  have hz : WT.heap.size = w3.heap.size + 1 := by rw [hW]; simp
  rw [← hW]
  have hpr := (hbw.block gP (Array.getElem?_eq_some_iff.1 HP3.out).1).trans HP3.out
  obtain ⟨gT, hgT⟩ : ∃ g, g = w3.heap.size := ⟨_, rfl⟩
  rw [← hgT] at ht ⊢
  have HUT := Lib.hid ht
  have HVT : Hid (gT < WT.heap.size) := by show _ < _; omega
  have HYT : Hid (SA WT 5 ⟨1, 3, 4, 0, some ⟨gP, 0, none⟩, 2, 2, 0, 0, none, 0, 0, none, 0, 0, none, 0, 0⟩ sTurn) := sa_mk (at_plus hpr 2 (by decide) (by decide) (by decide) (by decide) (by decide) (by decide)) (at_lf _ 3 0 0 (by decide)) (SK.nil _ _ _) (SK.nil _ _ _) (by decide) (by decide)
  have b := CH.out.trans (hbw.mono CH.out.size)
  have BT := Lib.hid (BD.out.trans (b.mono BD.out.size))
  have HTT := Lib.hid (HTD.out.below b HLD.out)
  have HLT : Hid (gR < WT.heap.size) := Nat.lt_of_lt_of_le HLD.out b.size
  have StT := Lib.hid b
  clear hW hbw ht hz hgT hpr b CH HP3 HTD HLD BD
  refine reg9_17 (by kernel_rfl) _ (by show 322 ≤ 322; decide) WT (HKD.out.below BT.out (Nat.le_refl _)) gT rfl HVT.out HUT.out HYT.out ?_
  intro uI0 uI1 uI2 uI3 uI4 uI5 uI6 uI7 uI8 gI WI DI dI VI vnI vcI b hg hr
  simp only [putAll, List.setIfInBounds_toArray, List.set_cons_zero, List.set_cons_succ]
  have HEI := Lib.hid hr
  have BI := Lib.hid (BT.out.trans (b.mono BT.out.size))
  have HTI := Lib.hid (HTT.out.below b HLT.out)
  have HLI : Hid (gR < WI.heap.size) := Nat.lt_of_lt_of_le HLT.out b.size
  have StI := Lib.hid b
  have HUI := Lib.hid (HUT.out.below b HVT.out)
  have HVI : Hid (gT < WI.heap.size) := Nat.lt_of_lt_of_le HVT.out b.size
  have HYI := Lib.hid (HYT.out.below b)
  clear b hg hr HTT HLT BT HUT HVT HYT
  go_upto_region 18 with fail
  refine reg9_18 (by kernel_rfl) _ (by show 322 ≤ 322; decide) WI (HKD.out.below BI.out (Nat.le_refl _)) gT rfl HVI.out HUI.out HYI.out ?_
  intro uJ0 uJ1 uJ2 uJ3 uJ4 uJ5 uJ6 uJ7 uJ8 gJ WJ DJ dJ VJ vnJ vcJ b hg hr
  simp only [putAll, List.setIfInBounds_toArray, List.set_cons_zero, List.set_cons_succ]
  have HEJ := Lib.hid hr
  have BJ := Lib.hid (BI.out.trans (b.mono BI.out.size))
  have HTJ := Lib.hid (HTI.out.below b HLI.out)
  have HLJ : Hid (gR < WJ.heap.size) := Nat.lt_of_lt_of_le HLI.out b.size
  have StJ := Lib.hid b
  have HUJ := Lib.hid (HUI.out.below b HVI.out)
  have HVJ : Hid (gT < WJ.heap.size) := Nat.lt_of_lt_of_le HVI.out b.size
  have HYJ := Lib.hid (HYI.out.below b)
  clear b hg hr HTI HLI BI HUI HVI HYI
  go_upto_region 19 with fail
  refine reg9_19 (by kernel_rfl) _ (by show 322 ≤ 322; decide) WJ (HKD.out.below BJ.out (Nat.le_refl _)) gT rfl HVJ.out HUJ.out HYJ.out ?_
  intro uK0 uK1 uK2 uK3 uK4 uK5 uK6 uK7 uK8 uK9 uK10 uK11 gK WK DK dK VK vnK vcK b hg hr
  simp only [putAll, List.setIfInBounds_toArray, List.set_cons_zero, List.set_cons_succ]
  have HEK := Lib.hid hr
  have BK := Lib.hid (BJ.out.trans (b.mono BJ.out.size))
  have HTK := Lib.hid (HTJ.out.below b HLJ.out)
  have HLK : Hid (gR < WK.heap.size) := Nat.lt_of_lt_of_le HLJ.out b.size
  have StK := Lib.hid b
  have HUK := Lib.hid (HUJ.out.below b HVJ.out)
  have HVK : Hid (gT < WK.heap.size) := Nat.lt_of_lt_of_le HVJ.out b.size
  have HYK := Lib.hid (HYJ.out.below b)
  clear b hg hr HTJ HLJ BJ HUJ HVJ HYJ
  go_upto_region 20 with fail
  refine reg9_20 (by kernel_rfl) _ (by show 322 ≤ 322; decide) WK (HKD.out.below BK.out (Nat.le_refl _)) gR rfl HLK.out HTK.out (sa_lf WK 0 6 0 0 0 0 0 (by decide)) gT rfl HVK.out HUK.out HYK.out ?_
  intro uL0 uL1 uL2 uL3 uL4 uL5 uL6 uL7 uL8 uL9 uL10 uL11 uL12 gL WL DL dL VL vnL vcL b hg hr
  simp only [putAll, List.setIfInBounds_toArray, List.set_cons_zero, List.set_cons_succ]
  have HEL := Lib.hid hr
  have BL := Lib.hid (BK.out.trans (b.mono BK.out.size))
  have HTL := Lib.hid (HTK.out.below b HLK.out)
  have HLL : Hid (gR < WL.heap.size) := Nat.lt_of_lt_of_le HLK.out b.size
  have StL := Lib.hid b
  have HUL := Lib.hid (HUK.out.below b HVK.out)
  have HVL : Hid (gT < WL.heap.size) := Nat.lt_of_lt_of_le HVK.out b.size
  have HYL := Lib.hid (HYK.out.below b)
  clear b hg hr HTK HLK BK HUK HVK HYK
  clear HTL HLL HUL HVL HYL
  go_wp2_with fail
  refine (jread_any 0 (-1) _).mono ?_
  rintro z w1 ⟨rfl, b1⟩
  have CH := Lib.hid b1
  clear b1
  dsimp only
  go_wp2_with fail
  refine (jlocal_any 0 _).mono ?_
  rintro z w2 ⟨rfl, b2⟩
  have CH := Lib.hid (CH.out.trans (b2.mono CH.out.size))
  clear b2
  dsimp only
  go_wp2_with fail
  refine (jplus_any 2 0 none 0 0 3 1 none 0 0 _).mono ?_
  rintro z w3 ⟨gP, rfl, hp0, hp, b3⟩
  have CH := Lib.hid (CH.out.trans (b3.mono CH.out.size))
  have HP3 := Lib.hid hp
  clear b3 hp hp0
  dsimp only
  go_wp2_with fail
  refine (jback_any 4 0 (some ⟨gP, 0, none⟩) 2 2 _).mono ?_
  rintro z w5 ⟨rfl, b5⟩
  have HP5 := Lib.hid ((b5.block gP (Array.getElem?_eq_some_iff.1 HP3.out).1).trans HP3.out)
  have CH := Lib.hid (CH.out.trans (b5.mono CH.out.size))
  clear b5 HP3
  dsimp only
  go_wp2_with fail
  refine (jof_any _ _ _ _).mono ?_
  rintro z w6 ⟨rfl, rfl⟩
  dsimp only
  go_wp2_with fail
  have k1 := sk_new w5 (D := 4) [⟨2, 0, 1, -1, none, 0, 0, 0, 0, none, 0, 0, none, 0, 0, none, 0, 0⟩, ⟨8, 0, 4, 0, some ⟨gP, 0, none⟩, 2, 2, 0, 0, none, 0, 0, none, 0, 0, none, 0, 0⟩] [jRead 0 (-1), jBack (xPlus (xLoc 0) (.node 3 1 []))] ⟨sa_lf _ 2 2 0 1 (-1) 0 0 (by decide), sa_mk (at_plus HP5.out 1 (by decide) (by decide) (by decide) (by decide) (by decide) (by decide)) (at_lf _ 2 0 0 (by decide)) (SK.nil _ _ _) (SK.nil _ _ _) (by decide) (by decide), trivial⟩ _ rfl
  obtain ⟨X1, hX1⟩ : ∃ W, W = w5.alloc (.cells #[.int .u8 2, .int .i64 0, .int .u8 1, .int .i64 (-1), .slice none 0 0, .int .u8 0, .int .i64 0, .slice none 0 0, .slice none 0 0, .slice none 0 0, .int .u8 8, .int .i64 0, .int .u8 4, .int .i64 0, .slice (some ⟨gP, 0, none⟩) 2 2, .int .u8 0, .int .i64 0, .slice none 0 0, .slice none 0 0, .slice none 0 0] 43) := ⟨_, rfl⟩
  have k1 : SK X1 4 (some ⟨w5.heap.size, 0, none⟩) txO := by rw [hX1]; exact k1
  have x1 : Below w5.heap.size w5 X1 := by rw [hX1]; exact (Below.refl _ _).alloc (Nat.le_refl _) _
  have z1 : X1.heap.size = w5.heap.size + 1 := by rw [hX1]; simp
  rw [← hX1]
  rw [show w5.heap.size + 1 = X1.heap.size from z1.symm]
  obtain ⟨X2, hX2⟩ : ∃ W, W = X1.alloc (.cells #[.int .i64 100, .int .i64 200] 2) := ⟨_, rfl⟩
  have x2 : Below X1.heap.size X1 X2 := by rw [hX2]; exact (Below.refl _ _).alloc (Nat.le_refl _) _
  have z2 : X2.heap.size = X1.heap.size + 1 := by rw [hX2]; simp
  have r2 : X2.heap[X1.heap.size]? = some (.cells #[.int .i64 100, .int .i64 200] 2 (0, 0)) := by rw [hX2]; exact World.alloc_heap_new _ _
  rw [← hX2]
  rw [show X1.heap.size + 1 = X2.heap.size from z2.symm]
  obtain ⟨X3, hX3⟩ : ∃ W, W = X2.alloc (.cells #[.int .i64 0, .int .i64 1, .int .i64 2, .int .i64 3] 2) := ⟨_, rfl⟩
  have x3 : Below X2.heap.size X2 X3 := by rw [hX3]; exact (Below.refl _ _).alloc (Nat.le_refl _) _
  have z3 : X3.heap.size = X2.heap.size + 1 := by rw [hX3]; simp
  have r3 : X3.heap[X2.heap.size]? = some (.cells #[.int .i64 0, .int .i64 1, .int .i64 2, .int .i64 3] 2 (0, 0)) := by rw [hX3]; exact World.alloc_heap_new _ _
  rw [← hX3]
  rw [show X2.heap.size + 1 = X3.heap.size from z3.symm]
  obtain ⟨X4, hX4⟩ : ∃ W, W = X3.alloc (.cells #[.slice (some ⟨X2.heap.size, 0, none⟩) 4 4] 44) := ⟨_, rfl⟩
  have x4 : Below X3.heap.size X3 X4 := by rw [hX4]; exact (Below.refl _ _).alloc (Nat.le_refl _) _
  have z4 : X4.heap.size = X3.heap.size + 1 := by rw [hX4]; simp
  have r4 : X4.heap[X3.heap.size]? = some (.cells #[.slice (some ⟨X2.heap.size, 0, none⟩) 4 4] 44 (0, 0)) := by rw [hX4]; exact World.alloc_heap_new _ _
  rw [← hX4]
  have b54 := x1.trans ((x2.trans ((x3.trans (x4.mono (by omega))).mono (by omega))).mono (by omega))
  have CH := Lib.hid (CH.out.trans (b54.mono CH.out.size))
  have B4 := Lib.hid (BL.out.trans (CH.out.mono BL.out.size))
  have hg2 : Ints X4 X4.heap.size (some ⟨X1.heap.size, 0, none⟩) [100, 200] := ints_row [100, 200] ((x4.block X1.heap.size (by omega)).trans ((x3.block X1.heap.size (by omega)).trans r2)) rfl (by decide)
  have hg3 : Ints X4 X4.heap.size (some ⟨X2.heap.size, 0, none⟩) [0, 1, 2, 3] := ints_row [0, 1, 2, 3] ((x4.block X2.heap.size (by omega)).trans r3) rfl (by decide)
  have hc4 : X4.cell? ⟨X3.heap.size, 0, none⟩ = some (.slice (some ⟨X2.heap.size, 0, none⟩) ([0, 1, 2, 3] : List Int).length 4) := by simp [World.cell?, r4]
  have hl4 : X3.heap.size < X4.heap.size := by omega
  have hk4 : SK X4 4 (some ⟨w5.heap.size, 0, none⟩) txO := k1.below (x2.trans ((x3.trans (x4.mono (by omega))).mono (by omega)))
  have hrun := run9_at (D := 4) (tx := txO) hk4 2 (vars := 4) (G := some ⟨X1.heap.size, 0, none⟩) (cg := 2) (got := [100, 200]) (g := X3.heap.size) (X := some ⟨X2.heap.size, 0, none⟩) (cx := 4) (l := [0, 1, 2, 3]) (HKD.out.below B4.out (Nat.le_refl _)) (by decide) (by decide) (by decide) (by decide) hg2 (by decide) (fun e he => by simp at he; rcases he with rfl | rfl <;> (rw [wf_iff]; omega)) (by kernel_rfl) hc4 hl4 hg3 (fun e he => by simp at he; rcases he with rfl | rfl | rfl | rfl <;> (rw [wf_iff]; omega)) runTO (by decide)
  have HRUN := Lib.hid hrun
  clear hX1 hX2 hX3 hX4 x1 x2 x3 x4 z1 z2 z3 z4 r2 r3 r4 b54 hg2 hg3 hc4 hl4 hk4 hrun k1 HP5
  refine HRUN.out.mono ?_
  rintro z w10 ⟨DO, dO, VO, vnO, vcO, rfl, hp, b10⟩
  have CH := Lib.hid (CH.out.trans (b10.mono CH.out.size))
  have B10 := Lib.hid (BL.out.trans (CH.out.mono BL.out.size))
  clear hp b10 HRUN B4
  dsimp only
  have GL := Lib.hid CH.out
  have GK := Lib.hid (StL.out.trans (GL.out.mono StL.out.size))
  have GJ := Lib.hid (StK.out.trans (GK.out.mono StK.out.size))
  have GI := Lib.hid (StJ.out.trans (GJ.out.mono StJ.out.size))
  have GT := Lib.hid (StI.out.trans (GI.out.mono StI.out.size))
  have GD := Lib.hid (StT.out.trans (GT.out.mono StT.out.size))
  have GC := Lib.hid (StD.out.trans (GD.out.mono StD.out.size))
  have GB := Lib.hid (StC.out.trans (GC.out.mono StC.out.size))
  have GA := Lib.hid (StB.out.trans (GB.out.mono StB.out.size))
  have ra := (GA.out.block gA (Array.getElem?_eq_some_iff.1 HEA.out).1).trans HEA.out
  obtain ⟨a0, _, _, a3, _, _, a14⟩ := end_cells ra
  have hla := (Array.getElem?_eq_some_iff.1 ra).1
  have a0 : ∀ o, (w10.alloc o).cell? ⟨gA, 0, none⟩ = some (.int .u8 3) := fun o => (((Below.refl w10.heap.size w10).alloc (Nat.le_refl _) o).cell (p := ⟨gA, 0, none⟩) hla).trans a0
  have a3 : ∀ o, (w10.alloc o).cell? ⟨gA, 3, none⟩ = some (.slice DA 1 dA) := fun o => (((Below.refl w10.heap.size w10).alloc (Nat.le_refl _) o).cell (p := ⟨gA, 3, none⟩) hla).trans a3
  have a14 : ∀ o, (w10.alloc o).cell? ⟨gA, 14, none⟩ = some (.bool true) := fun o => (((Below.refl w10.heap.size w10).alloc (Nat.le_refl _) o).cell (p := ⟨gA, 14, none⟩) hla).trans a14
  clear ra hla
  go_wp2_with fail
  obtain ⟨WO, hW⟩ : ∃ W, W = w10.alloc (.cells #[.int .u8 3, .int .i64 0, .int .i64 203, .slice DO 0 dO, .int .i64 3, .int .i64 0, .int .i64 0, .int .i64 0, .int .i64 0, .int .i64 0, .int .i64 0, .int .i64 0, .int .i64 1, .slice VO vnO vcO, .bool true] 48) := ⟨_, rfl⟩
  have hbw : Below w10.heap.size w10 WO := by rw [hW]; exact (Below.refl _ _).alloc (Nat.le_refl _) _
  have hr : WO.heap[w10.heap.size]? = some (.cells #[.int .u8 3, .int .i64 0, .int .i64 203, .slice DO 0 dO, .int .i64 3, .int .i64 0, .int .i64 0, .int .i64 0, .int .i64 0, .int .i64 0, .int .i64 0, .int .i64 0, .int .i64 1, .slice VO vnO vcO, .bool true] 48 (0, 0)) := by rw [hW]; exact World.alloc_heap_new w10 _
  have hz : WO.heap.size = w10.heap.size + 1 := by rw [hW]; simp
  rw [← hW]
  rw [show w10.heap.size + 1 = WO.heap.size from hz.symm]
  obtain ⟨gO, hgO⟩ : ∃ g, g = w10.heap.size := ⟨_, rfl⟩
  rw [← hgO] at hr ⊢
  have GO := Lib.hid hbw
  have BO := Lib.hid (B10.out.trans (hbw.mono B10.out.size))
  have HEO := Lib.hid hr
  have HPO : Hid (PairsAt WO WA.heap.size DA [(3, 3)] ∧ WA.heap.size ≤ WO.heap.size) := ⟨((HPA.out.below GA.out (Nat.le_refl _)).below hbw GA.out.size), Nat.le_trans GA.out.size hbw.size⟩
  clear hW hbw hr hz hgO
  refine (pairs_same WO HPO.out.1 HPO.out.2 3 3 dA 1 1 rfl (by decide) rfl).mono ?_
  rintro e w20 ⟨rfl, b20⟩
  have B20 := Lib.hid (BO.out.trans (b20.mono BO.out.size))
  have bO := GO.out.trans (b20.mono GO.out.size)
  have rO := (b20.block gO (Array.getElem?_eq_some_iff.1 HEO.out).1).trans HEO.out
  have rA := ((GA.out.trans (bO.mono GA.out.size)).block gA (Array.getElem?_eq_some_iff.1 HEA.out).1).trans HEA.out
  have rB := ((GB.out.trans (bO.mono GB.out.size)).block gB (Array.getElem?_eq_some_iff.1 HEB.out).1).trans HEB.out
  have rC := ((GC.out.trans (bO.mono GC.out.size)).block gC (Array.getElem?_eq_some_iff.1 HEC.out).1).trans HEC.out
  have rD := ((GD.out.trans (bO.mono GD.out.size)).block gD (Array.getElem?_eq_some_iff.1 HED.out).1).trans HED.out
  have rI := ((GI.out.trans (bO.mono GI.out.size)).block gI (Array.getElem?_eq_some_iff.1 HEI.out).1).trans HEI.out
  have rJ := ((GJ.out.trans (bO.mono GJ.out.size)).block gJ (Array.getElem?_eq_some_iff.1 HEJ.out).1).trans HEJ.out
  have rK := ((GK.out.trans (bO.mono GK.out.size)).block gK (Array.getElem?_eq_some_iff.1 HEK.out).1).trans HEK.out
  have rL := ((GL.out.trans (bO.mono GL.out.size)).block gL (Array.getElem?_eq_some_iff.1 HEL.out).1).trans HEL.out
  obtain ⟨x0, _, _, _, _, _, _⟩ := end_cells rA
  obtain ⟨b0, _, _, _, _, _, b14⟩ := end_cells rB
  obtain ⟨_, _, c2, c3, _, _, c14⟩ := end_cells rC
  obtain ⟨_, _, d2, _, _, _, d14⟩ := end_cells rD
  obtain ⟨_, _, i2, _, _, _, i14⟩ := end_cells rI
  obtain ⟨_, _, j2, _, _, _, j14⟩ := end_cells rJ
  obtain ⟨_, _, k2, _, _, _, k14⟩ := end_cells rK
  obtain ⟨_, _, _, _, l7, l12, l14⟩ := end_cells rL
  obtain ⟨_, _, o2, _, _, _, o14⟩ := end_cells rO
  clear hq hqn hqe
  clear b20 bO rO rA rB rC rD rI rJ rK rL a0 a3 a14 HEA HEB HEC HED HEI HEJ HEK HEL HEO GA GB GC GD GT GI GJ GK GO HPO HPA BO
  dsimp only
  go_wp2_with fail
  go_ret
  exact ⟨rfl, B20.out⟩
end Go.Proofs.YthdcdffdpdoeoaaGreatDoor
