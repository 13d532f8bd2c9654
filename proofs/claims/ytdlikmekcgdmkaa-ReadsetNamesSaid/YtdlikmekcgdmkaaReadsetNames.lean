/-
  ReadsetNames: the call returns true. No condition. (The examples; the bounds; nobody's.)
-/
import Derived.Test.YtdlikmekcgdmkaaGn
import Derived.Test.YtdlikmekcgdmkaaLift
namespace Go.Proofs.Ytdlikmekcgdmkaa
set_option maxRecDepth 100000
open Go.RowKit Go.Deep
open Go.ChangeShapes Go.WideShapes
set_option linter.unusedVariables false
theorem nil_wakes1 (w : World) : Calls Try.prog 22 #[.pointer none, .slice (some ⟨w.heap.size, 0, none⟩) 1 1, .slice (some ⟨w.heap.size + 1, 0, none⟩) 1 1] ((w.alloc (.cells #[.int .i64 (-1)] 3)).alloc (.cells #[.int .i64 9] 3)) fun e w' => e = .returned (.bool false) ∧ Below w.heap.size w w' := by
  have hb : Below w.heap.size w ((w.alloc (.cells #[.int .i64 (-1)] 3)).alloc (.cells #[.int .i64 9] 3)) := ((Below.refl _ _).alloc (Nat.le_refl _) _).alloc (by simp) _
  have h1 := heap_alloc_new (w.alloc (.cells #[.int .i64 (-1)] 3)) (.cells #[.int .i64 9] 3)
  rw [World.size_alloc] at h1
  have h0 := (heap_alloc_old (w.alloc (.cells #[.int .i64 (-1)] 3)) (.cells #[.int .i64 9] 3) (show w.heap.size < _ by simp)).trans (heap_alloc_new w _)
  exact (wakes_nil (Ints.lit [-1] h0 rfl (by simp; omega) (by simp)) (Ints.lit [9] h1 rfl (by simp) (by simp)) 1 1).mono fun e w' ⟨h1, h2⟩ => ⟨h1, hb.trans (h2.mono hb.size)⟩
set_option maxHeartbeats 8000000 in
theorem names10_any (w : World) : Calls Try.prog 4 #[] w fun e w' => e = .returned (.bool true) ∧ Below w.heap.size w w' := by
  go_enter Try.func4, Try.ntmps4
  go_wp2_with fail
  refine (nil_add _ _).mono ?_
  rintro e w' ⟨rfl, rfl⟩
  go_wp2_with fail
  refine (nil_has _ _).mono ?_
  rintro e w' ⟨rfl, rfl⟩
  go_wp2_with fail
  refine (all_nil _).mono ?_
  rintro e w1 ⟨A, c, rfl, b⟩
  have B1 := Lib.hid b
  clear b
  go_wp2_with fail
  refine (nil_rv _).mono ?_
  rintro e w' ⟨rfl, rfl⟩
  go_wp2_with fail
  refine (nil_look _ _ _).mono ?_
  rintro e w' ⟨rfl, rfl⟩
  go_wp2_with fail
  refine (nil_stale _ _ _ _).mono ?_
  rintro e w' ⟨rfl, rfl⟩
  go_wp2_with fail
  refine (nil_wakes1 _).mono ?_
  rintro e w2 ⟨rfl, b⟩
  have B2 := Lib.hid (B1.out.trans (b.mono B1.out.size))
  clear b B1
  go_wp2_with fail
  refine (nil_copy _).mono ?_
  rintro e w' ⟨rfl, rfl⟩
  go_wp2_with fail
  have HBL : Hid (Below w.heap.size w (w2.alloc (.cells #[.int .i64 (-1), .int .i64 1, .int .i64 1099511627777, .int .i64 1, .int .i64 0, .int .i64 0, .int .i64 0, .int .i64 33, .int .i64 0, .int .i64 (-1)] 43))) := B2.out.trans (((Below.refl _ _).alloc (Nat.le_refl _) _).mono B2.out.size)
  have HRW : Hid ((w2.alloc (.cells #[.int .i64 (-1), .int .i64 1, .int .i64 1099511627777, .int .i64 1, .int .i64 0, .int .i64 0, .int .i64 0, .int .i64 33, .int .i64 0, .int .i64 (-1)] 43)).heap[w2.heap.size]? = some (.cells #[.int .i64 (-1), .int .i64 1, .int .i64 1099511627777, .int .i64 1, .int .i64 0, .int .i64 0, .int .i64 0, .int .i64 33, .int .i64 0, .int .i64 (-1)] 43 (0, 0))) := heap_alloc_new _ _
  go_loopw [53] (fun i wr => ∃ k : Nat, k ≤ 5 ∧ i = .int .i64 k ∧ Hid (Below w.heap.size w wr) ∧ Hid (wr.heap[w2.heap.size]? = some (.cells #[.int .i64 (-1), .int .i64 1, .int .i64 1099511627777, .int .i64 1, .int .i64 0, .int .i64 0, .int .i64 0, .int .i64 33, .int .i64 0, .int .i64 (-1)] 43 (0, 0)))) (fun i _ => 5 - (intOf i).toNat)
  case atStart => exact ⟨0, by omega, by go_num, HBL, HRW⟩
  case round =>
    obtain ⟨k, hk, rfl, HB, HW⟩ := hrel
    have hz : w2.heap.size < wr.heap.size := (Array.getElem?_eq_some_iff.1 HW.out).1
    clear HBL HRW
    have h5 : k = 0 ∨ k = 1 ∨ k = 2 ∨ k = 3 ∨ k = 4 ∨ k = 5 := by omega
    rcases h5 with rfl | rfl | rfl | rfl | rfl | rfl
    · have c0 : wr.cell? ⟨w2.heap.size, 0, none⟩ = some (.int .i64 (-1)) := by simp [World.cell?, HW.out]
      have c1 : wr.cell? ⟨w2.heap.size, 1, none⟩ = some (.int .i64 1) := by simp [World.cell?, HW.out]
      go_wp2_with fail
      refine (new_no (-1) 1 (by omega) _).mono ?_
      rintro e w' ⟨rfl, rfl⟩
      have HB9 := Lib.hid (HB.out.alloc HB.out.size (.cells #[.int .i64 (-1), .int .i64 1] 43))
      have HW9 := Lib.hid ((heap_alloc_old wr (.cells #[.int .i64 (-1), .int .i64 1] 43) hz).trans HW.out)
      go_wp2_with fail
      go_roundw
      case rel => exact ⟨1, by omega, by go_num, HB9, HW9⟩
      case measure => simp [intOf]
    · have c0 : wr.cell? ⟨w2.heap.size, 2, none⟩ = some (.int .i64 1099511627777) := by simp [World.cell?, HW.out]
      have c1 : wr.cell? ⟨w2.heap.size, 3, none⟩ = some (.int .i64 1) := by simp [World.cell?, HW.out]
      go_wp2_with fail
      refine (new_no 1099511627777 1 (by omega) _).mono ?_
      rintro e w' ⟨rfl, rfl⟩
      have HB9 := Lib.hid (HB.out.alloc HB.out.size (.cells #[.int .i64 1099511627777, .int .i64 1] 43))
      have HW9 := Lib.hid ((heap_alloc_old wr (.cells #[.int .i64 1099511627777, .int .i64 1] 43) hz).trans HW.out)
      go_wp2_with fail
      go_roundw
      case rel => exact ⟨2, by omega, by go_num, HB9, HW9⟩
      case measure => simp [intOf]
    · have c0 : wr.cell? ⟨w2.heap.size, 4, none⟩ = some (.int .i64 0) := by simp [World.cell?, HW.out]
      have c1 : wr.cell? ⟨w2.heap.size, 5, none⟩ = some (.int .i64 0) := by simp [World.cell?, HW.out]
      go_wp2_with fail
      refine (new_no 0 0 (by omega) _).mono ?_
      rintro e w' ⟨rfl, rfl⟩
      have HB9 := Lib.hid (HB.out.alloc HB.out.size (.cells #[.int .i64 0, .int .i64 0] 43))
      have HW9 := Lib.hid ((heap_alloc_old wr (.cells #[.int .i64 0, .int .i64 0] 43) hz).trans HW.out)
      go_wp2_with fail
      go_roundw
      case rel => exact ⟨3, by omega, by go_num, HB9, HW9⟩
      case measure => simp [intOf]
    · have c0 : wr.cell? ⟨w2.heap.size, 6, none⟩ = some (.int .i64 0) := by simp [World.cell?, HW.out]
      have c1 : wr.cell? ⟨w2.heap.size, 7, none⟩ = some (.int .i64 33) := by simp [World.cell?, HW.out]
      go_wp2_with fail
      refine (new_no 0 33 (by omega) _).mono ?_
      rintro e w' ⟨rfl, rfl⟩
      have HB9 := Lib.hid (HB.out.alloc HB.out.size (.cells #[.int .i64 0, .int .i64 33] 43))
      have HW9 := Lib.hid ((heap_alloc_old wr (.cells #[.int .i64 0, .int .i64 33] 43) hz).trans HW.out)
      go_wp2_with fail
      go_roundw
      case rel => exact ⟨4, by omega, by go_num, HB9, HW9⟩
      case measure => simp [intOf]
    · have c0 : wr.cell? ⟨w2.heap.size, 8, none⟩ = some (.int .i64 0) := by simp [World.cell?, HW.out]
      have c1 : wr.cell? ⟨w2.heap.size, 9, none⟩ = some (.int .i64 (-1)) := by simp [World.cell?, HW.out]
      go_wp2_with fail
      refine (new_no 0 (-1) (by omega) _).mono ?_
      rintro e w' ⟨rfl, rfl⟩
      have HB9 := Lib.hid (HB.out.alloc HB.out.size (.cells #[.int .i64 0, .int .i64 (-1)] 43))
      have HW9 := Lib.hid ((heap_alloc_old wr (.cells #[.int .i64 0, .int .i64 (-1)] 43) hz).trans HW.out)
      go_wp2_with fail
      go_roundw
      case rel => exact ⟨5, by omega, by go_num, HB9, HW9⟩
      case measure => simp [intOf]
    · clear HW hz
      go_wp2_with fail
      refine (new_yes 1099511627776 32 (by omega) (by omega) (by omega) (by omega) _).mono ?_
      rintro e w3 ⟨rfl, hS, hb, hz⟩
      have hg : w.heap.size ≤ wr.heap.size := HB.out.size
      obtain ⟨g, hge⟩ : ∃ g, g = wr.heap.size := ⟨_, rfl⟩
      have HG : Hid (w.heap.size ≤ g) := by show _ ≤ _; omega
      rw [← hge] at hS ⊢
      have HB3 := Lib.hid (HB.out.trans (hb.mono hg))
      have T1 := Lib.hid (add_yes hS 31 (by decide))
      clear hS hb hz hg hge HB
      go_wp2_with fail
      refine T1.out.mono ?_
      rintro e w4 ⟨rfl, hS4, k4, z4, b4⟩
      have HB4 := Lib.hid (HB3.out.trans (b4 _ HG.out))
      have T2 := Lib.hid (add_no hS4 32 (by omega))
      have T3 := Lib.hid (add_no hS4 (-1) (by omega))
      have T4 := Lib.hid (has_yes hS4 31 (by decide))
      rw [show upd (fun _ => false) 31 31 = true from rfl] at T4
      have T5 := Lib.hid (has_no hS4 (-1) (by omega))
      have T6 := Lib.hid (has_no hS4 1099511627776 (by omega))
      clear hS4 k4 z4 b4 T1 HB3
      go_wp2_with fail
      refine T2.out.mono ?_
      rintro e w' ⟨rfl, rfl⟩
      go_wp2_with fail
      refine T3.out.mono ?_
      rintro e w' ⟨rfl, rfl⟩
      go_wp2_with fail
      refine T4.out.mono ?_
      rintro e w' ⟨rfl, rfl⟩
      go_wp2_with fail
      refine T5.out.mono ?_
      rintro e w' ⟨rfl, rfl⟩
      go_wp2_with fail
      refine T6.out.mono ?_
      rintro e w' ⟨rfl, rfl⟩
      go_wp2_with fail
      refine (awake10_any _).mono ?_
      rintro e w9 ⟨rfl, b9⟩
      have HB9 := Lib.hid (HB4.out.trans (b9.mono HB4.out.size))
      clear b9
      go_wp2_with fail
      go_ret
      exact ⟨rfl, HB9.out⟩
theorem ReadsetNames_walk (w : World) : Calls Try.prog 4 #[] w fun e w' => e = .returned (.bool true) ∧ Below w.heap.size w w' := names10_any w
theorem ReadsetNames_laid : laidOutB Try.prog = true := by kernel_rfl
set_option maxRecDepth 100000 in
theorem ReadsetNames_lifted (os : Os) (started : os.Started) (H : Type) (enc : TypeId × Value → H) :
    ReturnsInHanded {} Try.checked os 4 .any (Rows.readsetNamesSpec.pre6 enc Try.prog Try.f4 Rows.readsetNamesRow.domain false) (Rows.readsetNamesSpec.post enc Try.prog Try.f4 false true false false) := by
  refine returnsInHanded_of_change (C := Try.checked) lift_own started (by kernel_rfl) Try.func4
    (ChangeSpec.witness6 (enc := enc) (C := Try.checked) false ⟨#[], #[], []⟩ 8 (by kernel_rfl) (by kernel_rfl) (by kernel_rfl) (by kernel_rfl)) ?_
  intro W base args ds gs before hval0 hW hcnd _
  have hval : ∀ (j : Nat) t v, Try.f4.params[j]? = some t → args[j]? = some v → Value.okWide Try.prog W .any base t v := hval0
  have hW' := hW
  obtain ⟨p, q, hA0, hV, rfl, hfz, hnd⟩ := hW
  have hA : DataW.TrodAll enc Try.prog W 0 (fun _ => true) true Try.f4.params.toList args.toList ds p := hA0
  rw [Try.params4] at hA hval
  obtain ⟨hargs, rfl, rfl⟩ := trodAll_nil hA
  obtain rfl : args = #[] := by cases args; simp_all
  obtain ⟨rfl, rfl⟩ := trodVars_none hV
  clear hA0 hval0
  simp only [List.append_nil] at hW'
  refine (ReadsetNames_walk  W).mono fun e W' ⟨he, hg⟩ => ?_
  subst he
  exact ⟨_, rfl, lift_post (pv := []) hW' (fun _ _ _ => (trodAll_cons_mk (shut_bool Try.underlying4 _) trodAll_mk0)) (fun sp hsp => trodAll_mk0) (fun _ _ => rfl) (by simp)
    hg (ok_one (by kernel_rfl) rfl (okWide_bool_mk Try.underlying4 _))⟩

/-- THE STATEMENT of ReadsetNames: for every input the call returns true, and each argument reads behind it as before. -/
theorem ReadsetNames_holds : Rows.ReadsetNamesSaid :=
  OpenClaim.holds_of_wide 4 Try.f4 rfl rfl rfl rfl rfl rfl rfl ⟨rfl, rfl, rfl, rfl, rfl⟩ rfl rfl rfl rfl rfl (by kernel_rfl) Try.func4 (by kernel_rfl)
    (of_decide_eq_true (by kernel_rfl)) (by unfold Func.isWrapper; first | (rw [if_pos (by decide +kernel)]; kernel_rfl) | (rw [if_neg (by decide +kernel)]; exact ⟨rfl, rfl⟩))
    (fun os started H enc _ => ReadsetNames_lifted os started H enc)
end Go.Proofs.Ytdlikmekcgdmkaa
