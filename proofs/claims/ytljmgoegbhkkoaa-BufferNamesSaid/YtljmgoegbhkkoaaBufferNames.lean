/-
  BufferNames: the call returns true. (The examples; nobody's; Of.)
-/
import Derived.Test.YtljmgoegbhkkoaaLz
namespace Go.Proofs.Ytljmgoegbhkkoaa
set_option maxRecDepth 100000
open Go.RowKit Go.Maps Go.Shelf
open Go.ChangeShapes Go.WideShapes Go.Deep
set_option linter.unusedVariables false
theorem wfn : wfI 1 ∧ wfI 2 ∧ wfI 3 ∧ wfI 5 ∧ wfI 9 := by refine ⟨?_, ?_, ?_, ?_, ?_⟩ <;> rfl
theorem lit_pairs (w : World) (l : List Pr) (hl : l.length ≤ 1000) : PairsAt (w.alloc (.cells (pairCells l).toArray 43)) (w.alloc (.cells (pairCells l).toArray 43)).heap.size (some ⟨w.heap.size, 0, none⟩) l := by
  refine pairs_of_row (base := 0) (c := l.length) ⟨pairCells_len l, .inr ⟨w.heap.size, l.length, (pairCells l).toArray, rfl, Nat.zero_le _, World.alloc_heap_new w _, Nat.le_refl _, by unfold maxLen; omega, by simp [pairCells_len], ?_⟩⟩
  rw [List.toList_toArray, ← pairCells_len l, List.take_length]
set_option maxRecDepth 100000 in
set_option maxHeartbeats 8000000 in
theorem BufferNames_walk (w : World) : Calls Try.prog 4 #[] w fun e w' => e = .returned (.bool true) ∧ Below w.heap.size w w' := by
  obtain ⟨f1, f2, f3, f5, f9⟩ := wfn
  go_enter Try.func4, Try.ntmps4
  go_wp2_with fail
  refine (get_nil 1 _).mono ?_
  rintro e w1 ⟨rfl, b1⟩
  go_wp2_with fail
  refine (put_nil 1 2 _).mono ?_
  rintro e w1' ⟨rfl, rfl⟩
  go_wp2_with fail
  refine (push_nil _).mono ?_
  rintro e w1' ⟨rfl, rfl⟩
  go_wp2_with fail
  refine (drop_nil _).mono ?_
  rintro e w1' ⟨rfl, rfl⟩
  go_wp2_with fail
  refine (merge_nil _).mono ?_
  rintro e w1' ⟨rfl, rfl⟩
  go_wp2_with fail
  refine (depth_nil _).mono ?_
  rintro e w1' ⟨rfl, rfl⟩
  go_wp2_with fail
  refine (all_nil _).mono ?_
  rintro e w2 ⟨B, d, rfl, b2⟩
  go_wp2_with fail
  refine (copy_nil _).mono ?_
  rintro e w2' ⟨rfl, rfl⟩
  have BW := Lib.hid (b1.trans (b2.mono b1.size))
  clear b1 b2
  go_wp2_with fail
  refine (of_any w _ BW.out none 0 [] (fun k h => absurd h (by simp)) (by simp) (by simp)).mono ?_
  rintro e w3 ⟨qa, rfl, ha, _, _⟩
  have HA := Lib.hid ha
  clear ha
  go_wp2_with fail
  refine (of_any w3 (w3.alloc (.cells #[.int .i64 3, .int .i64 1, .int .i64 2, .int .i64 5, .int .i64 3, .int .i64 9] 43)) ((Below.refl _ w3).alloc (Nat.le_refl _) _) (some ⟨w3.heap.size, 0, none⟩) 3 [(3, 1), (2, 5), (3, 9)] (lit_pairs w3 [(3, 1), (2, 5), (3, 9)] (by simp)) (by intro e he; simp at he; rcases he with rfl | rfl | rfl; exact ⟨f3, f1⟩; exact ⟨f2, f5⟩; exact ⟨f3, f9⟩) (by simp)).mono ?_
  rintro e w4 ⟨qb, rfl, hb, _, _⟩
  have H4 := Lib.hid (b2_both HA.out hb)
  clear hb HA BW
  go_wp2_with fail
  refine (b2_depth H4.out (by decide)).mono ?_
  rintro e w5 ⟨rfl, rfl⟩
  go_wp2_with fail
  refine (b2_all H4.out (by decide) (by decide)).mono ?_
  rintro e w6 ⟨B1, d1, rfl, _, h6, _⟩
  have H6 := Lib.hid h6
  clear h6 H4
  have e0 : (allS (flat [[]])).length = 0 := rfl
  go_wp2_with fail
  refine (b2_merge7 H6.out (by decide) (by decide) (by decide)).mono ?_
  rintro e w7 ⟨rfl, h7⟩
  have H7 := Lib.hid h7.swap
  clear h7 H6
  go_wp2_with fail
  refine (b2_depth H7.out (by decide)).mono ?_
  rintro e w8 ⟨rfl, rfl⟩
  go_wp2_with fail
  have hal := b2_all H7.out (by decide) (by decide)
  have e1 : allS (flat [[((3 : Int), (1 : Int)), (2, 5), (3, 9)]]) = [(2, 5), (3, 9)] := by decide
  rw [e1] at hal
  refine hal.mono ?_
  rintro e w9 ⟨B2', d2, rfl, p2, h9, b9⟩
  have H9 := Lib.hid h9
  have P2 := Lib.hid p2
  clear h9 p2 H7 hal
  go_wp2_with fail
  have b10 : Below w9.heap.size w9 (w9.alloc (.cells #[.int .i64 2, .int .i64 5, .int .i64 3, .int .i64 9] 43)) := (Below.refl _ w9).alloc (Nat.le_refl _) _
  have hpc := pairs_any [((2 : Int), (5 : Int)), (3, 9)] [(2, 5), (3, 9)] _ B2' (some ⟨w9.heap.size, 0, none⟩) d2 2 (w9.alloc (.cells #[.int .i64 2, .int .i64 5, .int .i64 3, .int .i64 9] 43)) ((P2.out.below b10 (Nat.le_refl _)).wide b10.size) (lit_pairs w9 [(2, 5), (3, 9)] (by simp)) (Nat.le_refl _) (by simp) (by simp)
  rw [decide_eq_true rfl] at hpc
  have HB10 := Lib.hid (H9.out.low.trans (b10.mono H9.out.low.size))
  refine hpc.mono ?_
  rintro e w11 ⟨rfl, b11⟩
  have HB11 := Lib.hid (HB10.out.trans (b11.mono HB10.out.size))
  clear b11 hpc b10 H9 P2 HB10
  go_wp2_with fail
  refine (awake_any _).mono ?_
  rintro e w12 ⟨rfl, b12⟩
  go_wp2_with fail
  go_ret
  exact ⟨rfl, HB11.out.trans (b12.mono HB11.out.size)⟩
set_option maxRecDepth 100000 in
theorem BufferNames_lifted (os : Os) (started : os.Started) (H : Type) (enc : TypeId × Value → H) :
    ReturnsInHanded {} Try.checked os 4 .any (Rows.bufferNamesSpec.pre6 enc Try.prog Try.f4 Rows.bufferNamesRow.domain false) (Rows.bufferNamesSpec.post enc Try.prog Try.f4 false true false false) := by
  refine returnsInHanded_of_change (C := Try.checked) lift_own started (by kernel_rfl) Try.func4
    (ChangeSpec.witness6 (enc := enc) (C := Try.checked) false ⟨#[], #[], []⟩ 8 (by kernel_rfl) (by kernel_rfl) (by kernel_rfl) (by kernel_rfl)) ?_
  intro W base args ds gs before hval0 hW hcnd _
  have hval : ∀ (j : Nat) t v, Try.f4.params[j]? = some t → args[j]? = some v → Value.okWide Try.prog W .any base t v := hval0
  have hW' := hW
  obtain ⟨p, q, hA0, hV, rfl, hfz, hnd⟩ := hW
  have hA : DataW.TrodAll enc Try.prog W 0 (fun _ => true) true Try.f4.params.toList args.toList ds p := hA0
  rw [Try.params4] at hA hval
  obtain ⟨hargs, rfl, rfl⟩ := trodAll_nil hA
  obtain rfl : args = #[] := by cases args; simp_all
  obtain ⟨rfl, rfl⟩ := trodVars_none hV
  clear hA0 hval0
  simp only [List.append_nil] at hW'
  refine (BufferNames_walk  W).mono fun e W' ⟨he, hg⟩ => ?_
  subst he
  exact ⟨_, rfl, lift_post (pa := []) (pv := []) hW' (fun _ _ _ => (trodAll_cons_mk (shut_bool Try.underlying4 _) trodAll_mk0)) (fun sp _ => trodAll_mk0) (fun _ _ => rfl) rfl
    hg (ok_one (by kernel_rfl) rfl (okWide_bool_mk Try.underlying4 _))⟩

/-- THE STATEMENT of BufferNames: for every input the call returns true, and each argument reads behind it as before. -/
theorem BufferNames_holds : Rows.BufferNamesSaid :=
  OpenClaim.holds_of_wide 4 Try.f4 rfl rfl rfl rfl rfl rfl rfl ⟨rfl, rfl, rfl, rfl, rfl⟩ rfl rfl rfl rfl rfl (by kernel_rfl) Try.func4 (by kernel_rfl)
    (of_decide_eq_true (by kernel_rfl)) (by unfold Func.isWrapper; first | (rw [if_pos (by decide +kernel)]; kernel_rfl) | (rw [if_neg (by decide +kernel)]; exact ⟨rfl, rfl⟩))
    (fun os started H enc _ => BufferNames_lifted os started H enc)

end Go.Proofs.Ytljmgoegbhkkoaa
