/-
  CONTRACTS OF PACKAGE event: of, the methods that tell where a number is; May where no loop is come to. Conditions: as they stand.
-/
import Derived.Test.YtkfcglgikemefaaDoorWh
namespace Go.Proofs.YtkfcglgikemefaaDoor
set_option maxRecDepth 100000
open Go.RowKit Go.Shelf
set_option linter.unusedVariables false
/-- An event's numbers are of their kinds. -/
structure EvOk (e : Ev) : Prop where
  k0 : 0 ≤ e.kd
  k1 : e.kd ≤ 255
  w0 : 0 ≤ e.why
  w1 : e.why ≤ 255
  t0 : -9223372036854775808 ≤ e.th
  t1 : e.th ≤ 9223372036854775807
  x0 : -9223372036854775808 ≤ e.tx
  x1 : e.tx ≤ 9223372036854775807
  p0 : -9223372036854775808 ≤ e.pl
  p1 : e.pl ≤ 9223372036854775807
  v0 : -9223372036854775808 ≤ e.v
  v1 : e.v ≤ 9223372036854775807
  y0 : -9223372036854775808 ≤ e.x
  y1 : e.x ≤ 9223372036854775807
def numV (c : Nat → Int) : Value := .agg #[.int .i64 (c 0), .int .i64 (c 1), .int .i64 (c 2), .int .i64 (c 3), .int .i64 (c 4)]
def numR (c : Nat → Int) : Array Value := #[.int .i64 (c 0), .int .i64 (c 1), .int .i64 (c 2), .int .i64 (c 3), .int .i64 (c 4)]
theorem of_any (e : Ev) (ok : EvOk e) (w : World) :
    Calls Tryd.prog 80 #[evV e] w fun r w' => r = .returned (numV (numC e)) ∧ Below w.heap.size w w' := by
  have h : numV (numC e) = .agg #[.int .i64 e.tx, .int .i64 e.pl, .int .i64 e.v, .int .i64 e.x, .int .i64 e.why] := by simp [numV, numC]
  rw [h]
  have i1 := ok.w0
  have i2 := ok.w1
  clear ok h
  obtain ⟨kd, th, tx, pl, v, x, why⟩ := e
  unfold evV
  simp only at i1 i2 ⊢
  go_enter Tryd.func80, Tryd.ntmps80
  go_wp2
  exact bodyPost_ret (v := .agg #[.int .i64 tx, .int .i64 pl, .int .i64 v, .int .i64 x, .int .i64 why]) (by simp [results, Tryd.results80, go_sem]) rfl ⟨rfl, by go_grown⟩
theorem meth_any (k : Nat) (hk : k < 5) (g : Nat) (w : World) :
    Calls Tryd.prog (fnP k) #[.pointer (some ⟨g, 0, none⟩)] w fun r w' => r = .returned (.pointer (some ⟨g, k, none⟩)) ∧ w = w' := by
  match k, hk with
  | 0, _ =>
    show Calls Tryd.prog 93 _ _ _
    go_enter Tryd.func93, Tryd.ntmps93
    go_wp2
    go_ret
    exact ⟨rfl, rfl⟩
  | 1, _ =>
    show Calls Tryd.prog 95 _ _ _
    go_enter Tryd.func95, Tryd.ntmps95
    go_wp2
    go_ret
    exact ⟨rfl, rfl⟩
  | 2, _ =>
    show Calls Tryd.prog 94 _ _ _
    go_enter Tryd.func94, Tryd.ntmps94
    go_wp2
    go_ret
    exact ⟨rfl, rfl⟩
  | 3, _ =>
    show Calls Tryd.prog 96 _ _ _
    go_enter Tryd.func96, Tryd.ntmps96
    go_wp2
    go_ret
    exact ⟨rfl, rfl⟩
  | 4, _ =>
    show Calls Tryd.prog 97 _ _ _
    go_enter Tryd.func97, Tryd.ntmps97
    go_wp2
    go_ret
    exact ⟨rfl, rfl⟩
  | k + 5, h => exact absurd h (by omega)
set_option maxHeartbeats 1000000 in
theorem may_no1 (e : Ev) (T V S : Int) (h : sizesB T V S = false) (w : World) :
    Calls Tryd.prog 46 #[evV e, .int .i64 T, .int .i64 V, .int .i64 S] w fun r w' => r = .returned (.bool false) ∧ Below w.heap.size w w' := by
  have H1 := Lib.hid (fun w1 => sizes_any T V S w1)
  rw [h] at H1
  clear h
  unfold evV
  go_enter Tryd.func46, Tryd.ntmps46
  go_wp2_with fail
  refine (H1.out _).mono ?_
  rintro _ w1 ⟨rfl, rfl⟩
  go_wp2_with fail
  refine bodyPost_ret (v := .bool false) (by simp [results, Tryd.results46, go_sem]) rfl ⟨rfl, ?_⟩
  go_grown
theorem sizes_iff {T V S : Int} (h : sizesB T V S = true) : (1 ≤ T ∧ T ≤ 6) ∧ (1 ≤ V ∧ V ≤ 32) ∧ 1 ≤ S ∧ S ≤ V := by simpa [sizesB, and_assoc] using h
set_option maxHeartbeats 1000000 in
theorem may_no2 (e : Ev) (T V S : Int) (h : sizesB T V S = true) (h2 : (decide (0 ≤ e.th) && decide (e.th ≤ T - 1)) = false) (w : World) :
    Calls Tryd.prog 46 #[evV e, .int .i64 T, .int .i64 V, .int .i64 S] w fun r w' => r = .returned (.bool false) ∧ Below w.heap.size w w' := by
  have H1 := Lib.hid (fun w1 => sizes_any T V S w1)
  have H2 := Lib.hid (fun w1 => within_any e.th 0 (T - 1) w1)
  rw [h] at H1
  rw [h2] at H2
  have hs := sizes_iff h
  have t1 : 1 ≤ T := by omega
  have t2 : T ≤ 6 := by omega
  clear h h2 hs
  unfold evV
  go_enter Tryd.func46, Tryd.ntmps46
  go_wp2_with fail
  refine (H1.out _).mono ?_
  rintro _ w1 ⟨rfl, rfl⟩
  go_wp2_with fail
  refine (H2.out _).mono ?_
  rintro _ w1 ⟨rfl, rfl⟩
  go_wp2_with fail
  refine bodyPost_ret (v := .bool false) (by simp [results, Tryd.results46, go_sem]) rfl ⟨rfl, ?_⟩
  go_grown
set_option maxHeartbeats 1000000 in
theorem may_no3 (e : Ev) (ok : EvOk e) (T V S : Int) (h : sizesB T V S = true) (h2 : (decide (0 ≤ e.th) && decide (e.th ≤ T - 1)) = true) (h3 : ¬ (1 ≤ e.kd ∧ e.kd ≤ 13)) (w : World) (he : Ek w) :
    Calls Tryd.prog 46 #[evV e, .int .i64 T, .int .i64 V, .int .i64 S] w fun r w' => r = .returned (.bool false) ∧ Below w.heap.size w w' := by
  have H1 := Lib.hid (fun w1 => sizes_any T V S w1)
  have H2 := Lib.hid (fun w1 => within_any e.th 0 (T - 1) w1)
  rw [h] at H1
  rw [h2] at H2
  have hs := sizes_iff h
  have t1 : 1 ≤ T := by omega
  have t2 : T ≤ 6 := by omega
  have hnm : nmL e.kd.toNat = [] := by
    unfold nmL
    have := ok.k0
    split <;> first | omega | rfl
  have H3 : Hid (∀ w1, Below w.heap.size w w1 → Calls Tryd.prog 78 #[.int .u8 e.kd] w1 fun r w' => r = .returned (.string ⟨#[]⟩) ∧ w1 = w') := fun w1 b => by
    have := name_any e.kd.toNat (by have := ok.k0; have := ok.k1; omega) w1 (he.below b)
    rw [show nmV e.kd.toNat = .string ⟨#[]⟩ by unfold nmV; rw [hnm]; rfl, show ((e.kd.toNat : Nat) : Int) = e.kd by have := ok.k0; omega] at this
    exact this
  clear h h2 hs h3 hnm he ok
  unfold evV
  go_enter Tryd.func46, Tryd.ntmps46
  go_wp2_with fail
  refine (H1.out _).mono ?_
  rintro _ w1 ⟨rfl, rfl⟩
  go_wp2_with fail
  refine (H2.out _).mono ?_
  rintro _ w1 ⟨rfl, rfl⟩
  go_wp2_with fail
  refine (H3.out _ (by go_grown)).mono ?_
  rintro _ w1 ⟨rfl, rfl⟩
  go_wp2_with fail
  refine bodyPost_ret (v := .bool false) (by simp [results, Tryd.results46, go_sem]) rfl ⟨rfl, ?_⟩
  go_grown
theorem nm_ne {k : Nat} (h1 : 1 ≤ k) (h2 : k ≤ 13) : (bsW (nmL k)).toList.isEmpty = false := by
  rw [ByteArray.toList_eq, bsW_list]
  have : k = 1 ∨ k = 2 ∨ k = 3 ∨ k = 4 ∨ k = 5 ∨ k = 6 ∨ k = 7 ∨ k = 8 ∨ k = 9 ∨ k = 10 ∨ k = 11 ∨ k = 12 ∨ k = 13 := by omega
  rcases this with rfl | rfl | rfl | rfl | rfl | rfl | rfl | rfl | rfl | rfl | rfl | rfl | rfl <;> rfl
set_option maxHeartbeats 1000000 in
theorem may_no4 (e : Ev) (ok : EvOk e) (T V S : Int) (h : sizesB T V S = true) (h2 : (decide (0 ≤ e.th) && decide (e.th ≤ T - 1)) = true) (h3 : 1 ≤ e.kd ∧ e.kd ≤ 13) (h4 : fullB e.kd e.why = true) (h5 : (e.pl != 0) = true) (w : World) (he : Ek w) :
    Calls Tryd.prog 46 #[evV e, .int .i64 T, .int .i64 V, .int .i64 S] w fun r w' => r = .returned (.bool false) ∧ Below w.heap.size w w' := by
  have H1 := Lib.hid (fun w1 => sizes_any T V S w1)
  have H2 := Lib.hid (fun w1 => within_any e.th 0 (T - 1) w1)
  have H4 := Lib.hid (fun w1 => full_any e w1)
  rw [h] at H1
  rw [h2] at H2
  rw [h4] at H4
  have hs := sizes_iff h
  have t1 : 1 ≤ T := by omega
  have t2 : T ≤ 6 := by omega
  obtain ⟨b, hb⟩ : ∃ b, b = bsW (nmL e.kd.toNat) := ⟨_, rfl⟩
  have hbe : b.toList.isEmpty = false := by rw [hb]; exact nm_ne (by omega) (by omega)
  have H3 : Hid (∀ w1, Below w.heap.size w w1 → Calls Tryd.prog 78 #[.int .u8 e.kd] w1 fun r w' => r = .returned (.string b) ∧ w1 = w') := fun w1 bb => by
    have := name_any e.kd.toNat (by omega) w1 (he.below bb)
    rw [show nmV e.kd.toNat = .string b by unfold nmV; rw [hb], show ((e.kd.toNat : Nat) : Int) = e.kd by omega] at this
    exact this
  clear h h2 hs h3 hb he ok h4
  unfold evV at H4 ⊢
  go_enter Tryd.func46, Tryd.ntmps46
  go_wp2_with fail
  refine (H1.out _).mono ?_
  rintro _ w1 ⟨rfl, rfl⟩
  go_wp2_with fail
  refine (H2.out _).mono ?_
  rintro _ w1 ⟨rfl, rfl⟩
  go_wp2_with fail
  refine (H3.out _ (by go_grown)).mono ?_
  rintro _ w1 ⟨rfl, rfl⟩
  go_wp2_with fail
  refine (H4.out _).mono ?_
  rintro _ w1 ⟨rfl, b1⟩
  obtain ⟨W0, hW0⟩ : ∃ W0, W0 = (w.alloc (.cells #[.int .u8 e.kd, .int .i64 e.th, .int .i64 e.tx, .int .i64 e.pl, .int .i64 e.v, .int .i64 e.x, .int .u8 e.why] 46)).alloc (.cells #[.bool false] 4) := ⟨_, rfl⟩
  have hz0 : W0.heap.size = w.heap.size + 1 + 1 := by rw [hW0]; simp
  have c3 : w1.cell? ⟨w.heap.size, 3, none⟩ = some (.int .i64 e.pl) := by
    rw [b1.cell (p := ⟨w.heap.size, 3, none⟩) (by rw [← hW0, hz0]; show w.heap.size < _; omega), ← hW0]
    rw [hW0]
    simp
  have r0 : w1.cell? ⟨w.heap.size + 1, 0, none⟩ = some (.bool false) := by
    rw [b1.cell (p := ⟨w.heap.size + 1, 0, none⟩) (by rw [← hW0, hz0]; show w.heap.size + 1 < _; omega)]
    simp
  have f0 : w1.frozen? ⟨w.heap.size + 1, 0, none⟩ = false := by
    rw [b1.frozen (p := ⟨w.heap.size + 1, 0, none⟩) (by rw [← hW0, hz0]; show w.heap.size + 1 < _; omega)]
    simp
  have B1 : Hid (Below w.heap.size w w1) := by
    refine Lib.hid (Below.trans (B := w.heap.size) ?_ (b1.mono (by simp; omega)))
    go_grown
  clear b1 hW0 hz0
  go_wp2_with fail
  refine bodyPost_ret (v := .bool false) (by simp [results, Tryd.results46, go_sem, r0]) rfl ⟨rfl, ?_⟩
  exact B1.out.setCell (p := ⟨w.heap.size + 1, 0, none⟩) (by show w.heap.size ≤ w.heap.size + 1; omega) _
end Go.Proofs.YtkfcglgikemefaaDoor
