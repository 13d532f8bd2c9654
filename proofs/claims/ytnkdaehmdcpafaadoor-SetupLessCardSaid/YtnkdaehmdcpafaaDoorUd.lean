/-
  THE EXAMPLES OF LAYER 6, as each law asks them: they stand, whatever was in memory. No condition.
-/
import Derived.Test.YtnkdaehmdcpafaaDoorUc
namespace Go.Proofs.YtnkdaehmdcpafaaDoor
open Go.RowKit
set_option linter.unusedVariables false
theorem check_bare (st cl tr : Int) (I : Option Addr) (n c : Nat) (hn : n ≤ 9223372036854775807) (w : World) :
    Calls Tryd.prog 14 #[.agg #[.int .i64 st, .int .i64 cl, .int .i64 tr, .slice I n c, .slice none 0 0]] w fun e w' => e = .returned (.int .i64 (errF (numF st cl tr n))) ∧ Below w.heap.size w w' := by
  have := check_of st cl tr I n c none 0 0 hn true w fun W' _ => threads_none 0 W'
  rw [Bool.and_true] at this
  exact this
theorem three_ints (w : World) (a b c : Int) : Ints (w.alloc (.cells #[.int .i64 a, .int .i64 b, .int .i64 c] 3)) (w.heap.size + 1) (some ⟨w.heap.size, 0, none⟩) [a, b, c] :=
  ⟨by simp, fun k hk => ⟨_, rfl, by show w.heap.size < _; omega, by
    rw [row_add]
    match k, hk with
    | 0, _ => exact World.cell?_alloc_mark w _ _ (0, 0) 0
    | 1, _ => exact World.cell?_alloc_mark w _ _ (0, 0) 1
    | 2, _ => exact World.cell?_alloc_mark w _ _ (0, 0) 2⟩⟩
set_option maxRecDepth 100000 in
theorem awake_any (w : World) : Calls Tryd.prog 11 #[] w fun e w' => e = .returned (.bool true) ∧ Below w.heap.size w w' := by
  have H1 := Lib.hid (stripe_any 5 3 (by omega) (by omega) (by omega) w)
  have e1 : strF 5 3 = (2, 0) := by kernel_rfl
  have e2 : varsF 2 3 9 = [2, 5, 8] := by kernel_rfl
  have e3 : varsE 2 3 9 = 0 := by kernel_rfl
  have e4 : errF (numF 1 0 1 1) = 0 := by kernel_rfl
  have e5 : errF (numF 2 0 1 1) = 4 := by kernel_rfl
  rw [e1] at H1
  have H2 : Hid (∀ w, Calls Tryd.prog 22 #[.int .i64 2, .int .i64 3, .int .i64 9] w fun e w' => ∃ A c, e = .returned (.tuple #[.slice A 3 c, .int .i64 0]) ∧ Ints w' w'.heap.size A [2, 5, 8] ∧ (∀ p, A = some p → w.heap.size ≤ p.block) ∧ Below w.heap.size w w') := fun w => by
    have := vars_any 2 3 9 (by omega) (by omega) (by omega) (by omega) (by omega) w
    unfold Told at this
    rw [e2, e3] at this
    exact this
  have H3 : Hid (∀ I n c w, n = 1 → Calls Tryd.prog 14 #[.agg #[.int .i64 1, .int .i64 0, .int .i64 1, .slice I n c, .slice none 0 0]] w fun e w' => e = .returned (.int .i64 0) ∧ Below w.heap.size w w') := fun I n c w hn => by
    subst hn
    have := check_bare 1 0 1 I 1 c (by omega) w
    rw [e4] at this
    exact this
  have H4 : Hid (∀ I n c w, n = 1 → Calls Tryd.prog 14 #[.agg #[.int .i64 2, .int .i64 0, .int .i64 1, .slice I n c, .slice none 0 0]] w fun e w' => e = .returned (.int .i64 4) ∧ Below w.heap.size w w') := fun I n c w hn => by
    subst hn
    have := check_bare 2 0 1 I 1 c (by omega) w
    rw [e5] at this
    exact this
  clear e1 e2 e3 e4 e5
  go_enter Tryd.func11, Tryd.ntmps11
  go_wp2_with fail
  refine H1.out.mono ?_
  rintro _ _ ⟨rfl, rfl⟩
  go_wp2_with fail
  refine (H2.out w).mono ?_
  rintro _ w1 ⟨A, c, rfl, hI, _, b1⟩
  have HI := Lib.hid hI
  have B1 := Lib.hid b1
  clear hI b1
  go_wp2_with fail
  refine (H3.out _ _ _ _ rfl).mono ?_
  rintro _ w2 ⟨rfl, b2⟩
  have B2 : Hid (Below w1.heap.size w1 w2) := ((Below.refl _ _).alloc (Nat.le_refl _) _).trans (b2.mono (by simp))
  clear b2
  go_wp2_with fail
  refine (H4.out _ _ _ _ rfl).mono ?_
  rintro _ w3 ⟨rfl, b3⟩
  have B3 : Hid (Below w2.heap.size w2 w3) := ((Below.refl _ _).alloc (Nat.le_refl _) _).trans (b3.mono (by simp))
  clear b3
  go_wp2_with fail
  have BA : Hid (Below w1.heap.size w1 (w3.alloc (.cells #[.int .i64 2, .int .i64 5, .int .i64 8] 3))) := (B2.out.trans (B3.out.mono B2.out.size)).trans ((Below.refl _ _).alloc (Nat.le_refl _) _ |>.mono (by have := B2.out.size; have := B3.out.size; omega))
  refine (numbers_same [2, 5, 8] [2, 5, 8] A (some ⟨w3.heap.size, 0, none⟩) c 3 w1.heap.size (w3.heap.size + 1) _ (HI.out.below BA.out (Nat.le_refl _)) (three_ints w3 2 5 8) BA.out.size (by simp)).mono ?_
  rintro _ w4 ⟨rfl, b4⟩
  have B4 : Hid (Below w.heap.size w w4) := B1.out.trans ((BA.out.trans (b4.mono BA.out.size)).mono B1.out.size)
  clear b4
  go_wp2_with fail
  go_ret
  exact ⟨rfl, B4.out⟩
end Go.Proofs.YtnkdaehmdcpafaaDoor
