/-
  SEVERAL TEXTS IN ONE (a claim has sixty files at most): Ke, Kf: the head of each stands ahead of it. No condition but theirs.
-/
import Derived.Test.YthdcdffdpdoeoaaGreatDoorZq
/-
  CONTRACT OF THE STATEMENTS' works (layer 9): the chapter's examples. Condition: the table of what each Kind asks lies as its initialiser lays it.
-/
namespace Go.Proofs.YthdcdffdpdoeoaaGreatDoor
set_option maxRecDepth 100000
open Go.RowKit Go.Deep
set_option linter.unusedVariables false
set_option maxHeartbeats 8000000 in
theorem works9_any (w : World) (hkd : Kd w) : Calls Tryz.prog 4 #[] w fun e w' => e = .returned (.bool true) ∧ Below w.heap.size w w' := by
  have HKD := Lib.hid hkd
  clear hkd
  go_enter Tryz.func4, Tryz.ntmps4
  go_wp2_with fail
  refine (jread_any 1 0 _).mono ?_
  rintro z w1 ⟨rfl, b1⟩
  go_wp2_with fail
  refine (jlocal_any 1 _).mono ?_
  rintro z w2 ⟨rfl, b2⟩
  have b2 := b1.trans (b2.mono b1.size)
  go_wp2_with fail
  refine (jlit_any 1 _).mono ?_
  rintro z w3 ⟨rfl, b3⟩
  have b3 := b2.trans (b3.mono b2.size)
  go_wp2_with fail
  refine (jplus_any 2 1 none 0 0 1 1 none 0 0 _).mono ?_
  rintro z w4 ⟨g, rfl, hg0, hg, b4⟩
  have b4 := b3.trans (b4.mono b3.size)
  clear b1 b2 b3
  go_wp2_with fail
  refine (jwrite_any 0 4 0 (some ⟨g, 0, none⟩) 2 2 _).mono ?_
  rintro z w5 ⟨rfl, b5⟩
  have hgl := (Array.getElem?_eq_some_iff.1 hg).1
  have hg := (b5.block g hgl).trans hg
  have b5 := b4.trans (b5.mono b4.size)
  clear b4 hgl
  go_wp2_with fail
  refine (jlocal_any 1 _).mono ?_
  rintro z w6 ⟨rfl, b6⟩
  have hgl := (Array.getElem?_eq_some_iff.1 hg).1
  have hg := (b6.block g hgl).trans hg
  have b6 := b5.trans (b6.mono b5.size)
  clear b5 hgl
  go_wp2_with fail
  refine (jback_any 2 1 none 0 0 _).mono ?_
  rintro z w7 ⟨rfl, b7⟩
  have hgl := (Array.getElem?_eq_some_iff.1 hg).1
  have hg := (b7.block g hgl).trans hg
  have b7 := b6.trans (b7.mono b6.size)
  clear b6 hgl
  have HG := Lib.hid hg
  have B7 := Lib.hid b7
  have HG0 := Lib.hid hg0
  clear hg b7 hg0
  go_wp2_with fail
  refine (jof_any _ _ _ _).mono ?_
  rintro z w8 ⟨rfl, rfl⟩
  go_wp2_with fail
  refine (run_row w7 (HKD.out.below B7.out (Nat.le_refl _)) (D := 4) [⟨2, 1, 1, 0, none, 0, 0, 0, 0, none, 0, 0, none, 0, 0, none, 0, 0⟩, ⟨3, 0, 1, 0, none, 0, 0, 4, 0, some ⟨g, 0, none⟩, 2, 2, none, 0, 0, none, 0, 0⟩, ⟨8, 0, 2, 1, none, 0, 0, 0, 0, none, 0, 0, none, 0, 0, none, 0, 0⟩] tx1
    ⟨sa_lf _ 2 2 1 1 0 0 0 (by decide), sa_mk (at_lf _ 2 1 0 (by decide)) (at_plus HG.out 1 (by decide) (by decide) (by decide) (by decide) (by decide) (by decide)) (SK.nil _ _ _) (SK.nil _ _ _) (by decide) (by decide), sa_lf _ 2 8 0 2 1 0 0 (by decide), trivial⟩
    (by decide) (by decide) _ rfl 3 3 rfl 1 (by decide) (by decide) (by kernel_rfl) [5] (by decide) (fun e he => by simp at he; subst he; rw [wf_iff]; omega) _ rfl 1 1 rfl run1 (by decide) (w7.heap.size + 1) (w7.heap.size + 1 + 1) rfl rfl).mono ?_
  rintro z w9 ⟨B, d, VA, vn, vc, rfl, hp9, b9⟩
  have B9 := Lib.hid (B7.out.trans (b9.mono B7.out.size))
  have HP9 := Lib.hid hp9
  clear hp9 b9
  go_wp2_with fail
  obtain ⟨W9, hW9⟩ : ∃ W9, W9 = w9.alloc (.cells #[.int .u8 3, .int .i64 0, .int .i64 5, .slice B 1 d, .int .i64 0, .int .i64 5, .int .i64 0, .int .i64 0, .int .i64 0, .int .i64 0, .int .i64 0, .int .i64 0, .int .i64 2, .slice VA vn vc, .bool true] 48) := ⟨_, rfl⟩
  have hb9 : Below w9.heap.size w9 W9 := by rw [hW9]; exact (Below.refl _ _).alloc (Nat.le_refl _) _
  have hx9 : W9.heap[w9.heap.size]? = some (.cells #[.int .u8 3, .int .i64 0, .int .i64 5, .slice B 1 d, .int .i64 0, .int .i64 5, .int .i64 0, .int .i64 0, .int .i64 0, .int .i64 0, .int .i64 0, .int .i64 0, .int .i64 2, .slice VA vn vc, .bool true] 48 (0, 0)) := by rw [hW9]; exact World.alloc_heap_new w9 _
  have hz9 : W9.heap.size = w9.heap.size + 1 := by rw [hW9]; simp
  rw [← hW9]
  have BW9 := Lib.hid (B9.out.trans (hb9.mono B9.out.size))
  have HP9' : Hid (PairsAt W9 W9.heap.size B [(0, 6)]) := fun k hk => by
    obtain ⟨p, e, m, c⟩ := (HP9.out.below hb9 (Nat.le_refl _)) k hk
    exact ⟨p, e, by omega, c⟩
  have HX9 := Lib.hid hx9
  have HZ9 := Lib.hid hz9
  clear hW9 hb9 hx9 hz9
  rw [show w9.heap.size + 1 = W9.heap.size from HZ9.out.symm]
  refine (jof_any _ _ _ _).mono ?_
  rintro z w10 ⟨rfl, rfl⟩
  go_wp2_with fail
  refine (run_nil W9 (HKD.out.below BW9.out (Nat.le_refl _)) (D := 2) [⟨6, 0, 0, 0, none, 0, 0, 0, 0, none, 0, 0, none, 0, 0, none, 0, 0⟩] tx2 ⟨sa_lf _ 0 6 0 0 0 0 0 (by decide), trivial⟩ (by decide) (by decide) _ rfl 1 1 rfl 1 (by decide) (by decide) (by kernel_rfl) run2 (by decide) (W9.heap.size + 1) rfl).mono ?_
  rintro z w11 ⟨B2, d2, VA2, vn2, vc2, rfl, hp11, b11⟩
  have B11 := Lib.hid (BW9.out.trans (b11.mono BW9.out.size))
  have B9to11 := Lib.hid b11
  clear hp11 b11
  go_wp2_with fail
  obtain ⟨W11, hW⟩ : ∃ W, W = w11.alloc (.cells #[.int .u8 4, .int .i64 0, .int .i64 0, .slice B2 0 d2, .int .i64 0, .int .i64 0, .int .i64 0, .int .i64 0, .int .i64 0, .int .i64 0, .int .i64 0, .int .i64 0, .int .i64 0, .slice VA2 vn2 vc2, .bool true] 48) := ⟨_, rfl⟩
  have hbw : Below w11.heap.size w11 W11 := by rw [hW]; exact (Below.refl _ _).alloc (Nat.le_refl _) _
  have hxw : W11.heap[w11.heap.size]? = some (.cells #[.int .u8 4, .int .i64 0, .int .i64 0, .slice B2 0 d2, .int .i64 0, .int .i64 0, .int .i64 0, .int .i64 0, .int .i64 0, .int .i64 0, .int .i64 0, .int .i64 0, .int .i64 0, .slice VA2 vn2 vc2, .bool true] 48 (0, 0)) := by rw [hW]; exact World.alloc_heap_new w11 _
  have hzw : W11.heap.size = w11.heap.size + 1 := by rw [hW]; simp
  rw [← hW]
  have BW11 := Lib.hid (B11.out.trans (hbw.mono B11.out.size))
  have B9toW11 := Lib.hid (B9to11.out.trans (hbw.mono B9to11.out.size))
  have HXW11 := Lib.hid hxw
  have HZW11 := Lib.hid hzw
  clear hW hbw hxw hzw
  refine (jlit_any 1 _).mono ?_
  rintro z w12 ⟨rfl, b12⟩
  have b12' := b12
  go_wp2_with fail
  refine (jwrite_any 0 1 1 none 0 0 _).mono ?_
  rintro z w13 ⟨rfl, b13⟩
  have b13 := b12.trans (b13.mono b12.size)
  have B13 := Lib.hid b13
  clear b12 b12' b13
  go_wp2_with fail
  have hsk := sk_new w13 (D := 3) [⟨3, 0, 1, 0, none, 0, 0, 1, 1, none, 0, 0, none, 0, 0, none, 0, 0⟩, ⟨6, 0, 0, 0, none, 0, 0, 0, 0, none, 0, 0, none, 0, 0, none, 0, 0⟩] [jWrite 0 (xLit 1), jRetry] ⟨sa_lf _ 1 3 0 1 0 1 1 (by decide), sa_lf _ 1 6 0 0 0 0 0 (by decide), trivial⟩ _ rfl
  have hbw : Below w13.heap.size w13 (w13.alloc (.cells #[.int .u8 3, .int .i64 0, .int .u8 1, .int .i64 0, .slice none 0 0, .int .u8 1, .int .i64 1, .slice none 0 0, .slice none 0 0, .slice none 0 0, .int .u8 6, .int .i64 0, .int .u8 0, .int .i64 0, .slice none 0 0, .int .u8 0, .int .i64 0, .slice none 0 0, .slice none 0 0, .slice none 0 0] 43)) := (Below.refl _ _).alloc (Nat.le_refl _) _
  have hsk : SK (w13.alloc (.cells #[.int .u8 3, .int .i64 0, .int .u8 1, .int .i64 0, .slice none 0 0, .int .u8 1, .int .i64 1, .slice none 0 0, .slice none 0 0, .slice none 0 0, .int .u8 6, .int .i64 0, .int .u8 0, .int .i64 0, .slice none 0 0, .int .u8 0, .int .i64 0, .slice none 0 0, .slice none 0 0, .slice none 0 0] 43)) 3 (some ⟨w13.heap.size, 0, none⟩) [jWrite 0 (xLit 1), jRetry] := hsk
  obtain ⟨W14, hW⟩ : ∃ W, W = w13.alloc (.cells #[.int .u8 3, .int .i64 0, .int .u8 1, .int .i64 0, .slice none 0 0, .int .u8 1, .int .i64 1, .slice none 0 0, .slice none 0 0, .slice none 0 0, .int .u8 6, .int .i64 0, .int .u8 0, .int .i64 0, .slice none 0 0, .int .u8 0, .int .i64 0, .slice none 0 0, .slice none 0 0, .slice none 0 0] 43) := ⟨_, rfl⟩
  rw [← hW] at hsk hbw ⊢
  have HSK1 := Lib.hid hsk
  have B14 := Lib.hid (B13.out.trans (hbw.mono B13.out.size))
  clear hW hsk hbw
  refine (jlit_any 9 _).mono ?_
  rintro z w15 ⟨rfl, b15⟩
  go_wp2_with fail
  refine (jback_any 1 9 none 0 0 _).mono ?_
  rintro z w16 ⟨rfl, b16⟩
  have b16 := b15.trans (b16.mono b15.size)
  have B16 := Lib.hid b16
  clear b15 b16
  go_wp2_with fail
  have hsk : SK (w16.alloc (.cells #[.int .u8 8, .int .i64 0, .int .u8 1, .int .i64 9, .slice none 0 0, .int .u8 0, .int .i64 0, .slice none 0 0, .slice none 0 0, .slice none 0 0] 43)) 3 (some ⟨w16.heap.size, 0, none⟩) [jBack (xLit 9)] := sk_new w16 (D := 3) [⟨8, 0, 1, 9, none, 0, 0, 0, 0, none, 0, 0, none, 0, 0, none, 0, 0⟩] [jBack (xLit 9)] ⟨sa_lf _ 1 8 0 1 9 0 0 (by decide), trivial⟩ _ rfl
  have hbw : Below w16.heap.size w16 (w16.alloc (.cells #[.int .u8 8, .int .i64 0, .int .u8 1, .int .i64 9, .slice none 0 0, .int .u8 0, .int .i64 0, .slice none 0 0, .slice none 0 0, .slice none 0 0] 43)) := (Below.refl _ _).alloc (Nat.le_refl _) _
  have hzw : (w16.alloc (.cells #[.int .u8 8, .int .i64 0, .int .u8 1, .int .i64 9, .slice none 0 0, .int .u8 0, .int .i64 0, .slice none 0 0, .slice none 0 0, .slice none 0 0] 43)).heap.size = w16.heap.size + 1 := by simp
  obtain ⟨W17, hW⟩ : ∃ W, W = w16.alloc (.cells #[.int .u8 8, .int .i64 0, .int .u8 1, .int .i64 9, .slice none 0 0, .int .u8 0, .int .i64 0, .slice none 0 0, .slice none 0 0, .slice none 0 0] 43) := ⟨_, rfl⟩
  rw [← hW] at hsk hbw hzw ⊢
  have HSK2 := Lib.hid hsk
  have B1417 := Lib.hid (B16.out.trans (hbw.mono B16.out.size))
  have B17 := Lib.hid (B14.out.trans (B1417.out.mono B14.out.size))
  have BW17 := Lib.hid (BW11.out.trans (B17.out.mono BW11.out.size))
  have HZ17 := Lib.hid hzw
  clear hW hsk hbw hzw
  rw [show w16.heap.size + 1 = W17.heap.size from HZ17.out.symm]
  refine (jof_any _ _ _ _).mono ?_
  rintro z w18 ⟨rfl, rfl⟩
  go_wp2_with fail
  refine (run_nil W17 (HKD.out.below BW17.out (Nat.le_refl _)) (D := 4) [⟨7, 0, 0, 0, none, 0, 0, 0, 0, none, 0, 0, some ⟨w13.heap.size, 0, none⟩, 2, 2, some ⟨w16.heap.size, 0, none⟩, 1, 1⟩] tx3 ⟨sa_mk (at_lf _ 2 0 0 (by decide)) (at_lf _ 2 0 0 (by decide)) (HSK1.out.below B1417.out) HSK2.out (by decide) (by decide), trivial⟩ (by decide) (by decide) _ rfl 1 1 rfl 1 (by decide) (by decide) (by kernel_rfl) run3 (by decide) (W17.heap.size + 1) rfl).mono ?_
  rintro z w19 ⟨B3, d3, VA3, vn3, vc3, rfl, hp19, b19⟩
  have B17to19 := Lib.hid b19
  have B19 := Lib.hid (BW17.out.trans (b19.mono BW17.out.size))
  have B11to19 := Lib.hid (B17.out.trans (b19.mono B17.out.size))
  have B9to19 := Lib.hid (B9toW11.out.trans (B11to19.out.mono B9toW11.out.size))
  clear hp19 b19
  go_upto_region 4 with fail
  obtain ⟨W19, hW⟩ : ∃ W, W = w19.alloc (.cells #[.int .u8 3, .int .i64 0, .int .i64 9, .slice B3 0 d3, .int .i64 0, .int .i64 0, .int .i64 0, .int .i64 0, .int .i64 0, .int .i64 0, .int .i64 0, .int .i64 0, .int .i64 3, .slice VA3 vn3 vc3, .bool true] 48) := ⟨_, rfl⟩
  have hbw : Below w19.heap.size w19 W19 := by rw [hW]; exact (Below.refl _ _).alloc (Nat.le_refl _) _
  have hxw : W19.heap[w19.heap.size]? = some (.cells #[.int .u8 3, .int .i64 0, .int .i64 9, .slice B3 0 d3, .int .i64 0, .int .i64 0, .int .i64 0, .int .i64 0, .int .i64 0, .int .i64 0, .int .i64 0, .int .i64 0, .int .i64 3, .slice VA3 vn3 vc3, .bool true] 48 (0, 0)) := by rw [hW]; exact World.alloc_heap_new w19 _
  rw [← hW]
  have ha := (hbw.block w9.heap.size (by have h1 := B9to19.out.size; have h2 := HZ9.out; omega)).trans ((B9to19.out.block w9.heap.size (by have h2 := HZ9.out; omega)).trans HX9.out)
  have hb := (hbw.block w11.heap.size (by have h1 := B11to19.out.size; have h2 := HZW11.out; omega)).trans ((B11to19.out.block w11.heap.size (by have h2 := HZW11.out; omega)).trans HXW11.out)
  have hpa : PairsAt W19 W9.heap.size B [(0, 6)] := (HP9'.out.below B9to19.out (Nat.le_refl _)).below hbw B9to19.out.size
  have HPA := Lib.hid (And.intro hpa (Nat.le_trans B9to19.out.size hbw.size))
  have BW19 := Lib.hid (B19.out.trans (hbw.mono B19.out.size))
  obtain ⟨a0, a1, a2, a3, _, a12, a14⟩ := end_cells ha
  obtain ⟨b0, b1, b2, b3, _, b12, b14⟩ := end_cells hb
  obtain ⟨c0, c1, c2, c3, _, c12, c14⟩ := end_cells hxw
  have hq := eql_ask
  clear hW hbw hxw ha hb hpa
  go_wp2_with fail
  refine (pairs_same W19 HPA.out.1 HPA.out.2 0 6 d 1 1 rfl (by decide) rfl).mono ?_
  rintro e w20 ⟨rfl, b20⟩
  have B20 := Lib.hid (BW19.out.trans (b20.mono BW19.out.size))
  have HK20 : Hid (∀ b i, b < W19.heap.size → w20.cell? ⟨b, i, none⟩ = W19.cell? ⟨b, i, none⟩) := fun b i hb => b20.cell (p := ⟨b, i, none⟩) hb
  have q9 : w9.heap.size < W19.heap.size := there_block a0
  have q11 : w11.heap.size < W19.heap.size := there_block b0
  have q19 : w19.heap.size < W19.heap.size := there_block c0
  have b0 := (HK20.out _ 0 q11).trans b0
  have b1 := (HK20.out _ 1 q11).trans b1
  have b2 := (HK20.out _ 2 q11).trans b2
  have b14 := (HK20.out _ 14 q11).trans b14
  have c0 := (HK20.out _ 0 q19).trans c0
  have c1 := (HK20.out _ 1 q19).trans c1
  have c2 := (HK20.out _ 2 q19).trans c2
  have c3 := (HK20.out _ 3 q19).trans c3
  have c12 := (HK20.out _ 12 q19).trans c12
  have c14 := (HK20.out _ 14 q19).trans c14
  clear b20 q9 q11 q19
  go_wp2_with fail
  go_ret
  exact ⟨rfl, B20.out⟩
end Go.Proofs.YthdcdffdpdoeoaaGreatDoor
/-
  CONTRACTS OF PACKAGE interp's CALLS OF nil (layer 9). No condition.
-/
namespace Go.Proofs.YthdcdffdpdoeoaaGreatDoor
set_option maxRecDepth 100000
open Go.RowKit Go.Deep
set_option linter.unusedVariables false
theorem nil_next (w : World) : Calls Tryz.prog 5 #[.pointer none] w fun e w' => e = .returned (.agg #[.int .u8 0, .int .i64 0, .int .i64 0]) ∧ Below w.heap.size w w' := by
  go_enter Tryz.func5, Tryz.ntmps5
  go_wp2_with fail
  exact bodyPost_ret (v := .agg #[.int .u8 0, .int .i64 0, .int .i64 0]) (by simp [results, Tryz.results5, go_sem]) rfl ⟨rfl, by go_grown⟩
theorem nil_step (w : World) : Calls Tryz.prog 6 #[.pointer none] w fun e w' => e = .returned (.int .i64 2) ∧ Below w.heap.size w w' := by
  go_enter Tryz.func6, Tryz.ntmps6
  go_wp2_with fail
  go_ret
  exact ⟨rfl, by go_grown⟩
theorem nil_answer (x : Int) (w : World) : Calls Tryz.prog 7 #[.pointer none, .int .i64 x] w fun e w' => e = .returned (.int .i64 2) ∧ Below w.heap.size w w' := by
  go_enter Tryz.func7, Tryz.ntmps7
  go_wp2_with fail
  go_ret
  exact ⟨rfl, by go_grown⟩
theorem nil_writes (w : World) : Calls Tryz.prog 8 #[.pointer none] w fun e w' => e = .returned (.slice none 0 0) ∧ Below w.heap.size w w' := by
  go_enter Tryz.func8, Tryz.ntmps8
  go_wp2_with fail
  go_ret
  exact ⟨rfl, by go_grown⟩
theorem nil_steps (w : World) : Calls Tryz.prog 9 #[.pointer none] w fun e w' => e = .returned (.int .i64 0) ∧ Below w.heap.size w w' := by
  go_enter Tryz.func9, Tryz.ntmps9
  go_wp2_with fail
  go_ret
  exact ⟨rfl, by go_grown⟩
theorem nil_copy (w : World) : Calls Tryz.prog 10 #[.pointer none] w fun e w' => e = .returned (.pointer none) ∧ Below w.heap.size w w' := by
  go_enter Tryz.func10, Tryz.ntmps10
  go_wp2_with fail
  go_ret
  exact ⟨rfl, by go_grown⟩
theorem nil_locals (w : World) : Calls Tryz.prog 11 #[.pointer none] w fun e w' => e = .returned (.agg #[.int .i64 0, .int .i64 0, .int .i64 0, .int .i64 0, .int .i64 0, .int .i64 0, .int .i64 0, .int .i64 0]) ∧ Below w.heap.size w w' := by
  go_enter Tryz.func11, Tryz.ntmps11
  go_wp2_with fail
  exact bodyPost_ret (v := .agg #[.int .i64 0, .int .i64 0, .int .i64 0, .int .i64 0, .int .i64 0, .int .i64 0, .int .i64 0, .int .i64 0]) (by simp [results, Tryz.results11, go_sem]) rfl ⟨rfl, by go_grown⟩
theorem neq_ask (w : World) : (Go.binOp .neq 25 (.agg #[.int .u8 0, .int .i64 0, .int .i64 0]) (.agg #[.int .u8 0, .int .i64 0, .int .i64 0])).run Tryz.prog w = .ok (.bool false) w := by kernel_rfl
theorem neq_eight (w : World) : (Go.binOp .neq 34 (.agg #[.int .i64 0, .int .i64 0, .int .i64 0, .int .i64 0, .int .i64 0, .int .i64 0, .int .i64 0, .int .i64 0]) (.agg #[.int .i64 0, .int .i64 0, .int .i64 0, .int .i64 0, .int .i64 0, .int .i64 0, .int .i64 0, .int .i64 0])).run Tryz.prog w = .ok (.bool false) w := by kernel_rfl
end Go.Proofs.YthdcdffdpdoeoaaGreatDoor
