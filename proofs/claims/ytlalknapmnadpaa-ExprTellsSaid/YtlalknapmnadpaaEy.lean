/-
  CONTRACTS OF seesawref04's Whole, May, Variable (the document's own answers of layer 4); the memory that was there stays as it was. Conditions: as they stand.
-/
import Derived.Test.YtlalknapmnadpaaEw
namespace Go.Proofs.Ytlalknapmnadpaa
open Go.RowKit
set_option linter.unusedVariables false
set_option maxRecDepth 100000 in
theorem rWhole_any (d : Nat) (e : Ex) (v : Value) (lo hi : Nat) (w : World) (h : At w lo hi d v e) (hhi : hi ≤ w.heap.size) :
    Calls Try.prog 16 #[v] w fun r w' => r = .returned (.bool (wholeF 6 e)) ∧ Below w.heap.size w w' := by
  obtain ⟨d, rfl⟩ : ∃ q, d = q + 1 := by
    cases d with
    | zero => exact h.elim
    | succ q => exact ⟨q, rfl⟩
  obtain ⟨op, n, args⟩ := e
  have hh := h
  obtain ⟨q1, q2, q3, q4, A, c, rfl, hk⟩ := h.open_
  have b0 := boxed_below w (.int .u8 op) (.int .i64 n) (.slice A args.length c)
  have HM := Lib.hid (rwhole_any 6 (by omega) (d + 1) _ _ lo hi _ (hh.below b0 hhi) (by simp; omega))
  have HB0 := Lib.hid b0
  clear hk hh h b0
  go_enter Try.func16, Try.ntmps16
  go_wp2_with fail
  refine HM.out.mono ?_
  rintro r w5 ⟨rfl, b5⟩
  go_wp2_with fail
  go_ret
  exact ⟨rfl, HB0.out.trans (b5.mono HB0.out.size)⟩

set_option maxRecDepth 100000 in
theorem rMay_any (d : Nat) (e : Ex) (v : Value) (lo hi : Nat) (m : Int) (hm0 : -9223372036854775808 ≤ m) (hm1 : m < 9223372036854775808) (w : World) (h : At w lo hi d v e) (hhi : hi ≤ w.heap.size) :
    Calls Try.prog 18 #[v, .int .i64 m] w fun r w' => r = .returned (.bool (wholeF 6 e && belowF d e m)) ∧ Below w.heap.size w w' := by
  obtain ⟨d, rfl⟩ : ∃ q, d = q + 1 := by
    cases d with
    | zero => exact h.elim
    | succ q => exact ⟨q, rfl⟩
  obtain ⟨op, n, args⟩ := e
  have hh := h
  obtain ⟨q1, q2, q3, q4, A, c, rfl, hk⟩ := h.open_
  have b0 := boxed_below w (.int .u8 op) (.int .i64 n) (.slice A args.length c)
  have hbx := Boxed.new w (.int .u8 op) (.int .i64 n) (.slice A args.length c)
  have z0 : w.heap.size < (w.alloc (.cells #[.int .u8 op, .int .i64 n, .slice A args.length c] 24)).heap.size := by simp
  have hA := hh.below b0 hhi
  have HM := Lib.hid (rWhole_any (d + 1) _ _ lo hi _ hA (by simp; omega))
  have HN : Hid (∀ W', Below (w.alloc (.cells #[.int .u8 op, .int .i64 n, .slice A args.length c] 24)).heap.size (w.alloc (.cells #[.int .u8 op, .int .i64 n, .slice A args.length c] 24)) W' → Calls Try.prog 37 #[.agg #[.int .u8 op, .int .i64 n, .slice A args.length c], .int .i64 m] W' fun r w' => r = .returned (.bool (belowF (d + 1) (.node op n args) m)) ∧ Below W'.heap.size W' w') :=
    fun W' h' => rbelow_any (d + 1) m hm0 hm1 _ _ lo hi W' (hA.below h' (by simp; omega)) (by have := h'.size; simp at this; omega)
  have HB0 := Lib.hid b0
  have HBX := Lib.hid hbx
  have HZ0 := Lib.hid z0
  obtain ⟨e, he⟩ : ∃ e, e = Ex.node op n args := ⟨_, rfl⟩
  rw [← he] at HM HN ⊢
  clear hk hh h b0 hbx z0 hA he
  cases hv : wholeF 6 e with
  | false =>
    rw [hv] at HM
    clear hv
    go_enter Try.func18, Try.ntmps18
    go_wp2_with fail
    refine HM.out.mono ?_
    rintro r w5 ⟨rfl, b5⟩
    go_wp2_with fail
    go_ret
    exact ⟨rfl, HB0.out.trans (b5.mono HB0.out.size)⟩
  | true =>
    rw [hv] at HM
    clear hv
    go_enter Try.func18, Try.ntmps18
    go_wp2_with fail
    refine HM.out.mono ?_
    rintro r w5 ⟨rfl, b5⟩
    have g0 := (HBX.out.below b5 HZ0.out).c0
    have g1 := (HBX.out.below b5 HZ0.out).c1
    have g2 := (HBX.out.below b5 HZ0.out).c2
    go_wp2_with fail
    refine (HN.out w5 b5).mono ?_
    rintro r w6 ⟨rfl, b6⟩
    go_wp2_with fail
    go_ret
    exact ⟨rfl, HB0.out.trans ((b5.trans (b6.mono b5.size)).mono HB0.out.size)⟩

set_option maxRecDepth 100000 in
theorem rVariable_any (x vars : Int) (hx0 : -9223372036854775808 ≤ x) (hx1 : x < 9223372036854775808) (hv0 : -9223372036854775808 ≤ vars) (hv1 : vars < 9223372036854775808) (w : World) :
    Calls Try.prog 25 #[.int .i64 x, .int .i64 vars] w fun r w' => r = .returned (.tuple #[.int .i64 (varF x vars).1, .int .i64 (varF x vars).2]) ∧ w = w' := by
  by_cases h : vars < 1
  · have HV : Hid (varF x vars = (0, 1)) := if_pos h
    go_enter Try.func25, Try.ntmps25
    go_wp2_with fail
    go_ret2
    exact ⟨ret_two (by rw [HV.out]) (by rw [HV.out]), rfl⟩
  · have HV : Hid (varF x vars = (x % vars, 0)) := if_neg h
    have hv : 1 ≤ vars := by omega
    have hm1 := Int.emod_nonneg x (by omega : vars ≠ 0)
    have hm2 := Int.emod_lt_of_pos x (by omega : 0 < vars)
    by_cases ht0 : x.tmod vars < 0
    · have F1 := Lib.hid (tmod_fix x vars (by omega) ht0)
      have k1 : 0 ≤ x.tmod vars + vars := by rw [F1.out]; exact hm1
      have k2 : x.tmod vars + vars < vars := by rw [F1.out]; exact hm2
      clear h hm1 hm2
      go_enter Try.func25, Try.ntmps25
      go_wp2_with fail
      go_ret2
      exact ⟨ret_two (by rw [HV.out]; exact F1.out) (by rw [HV.out]), rfl⟩
    · have F1 := Lib.hid (tmod_pos x vars (by omega) (by omega))
      clear h hm1 hm2
      go_enter Try.func25, Try.ntmps25
      go_wp2_with fail
      go_ret2
      exact ⟨ret_two (by rw [HV.out]; exact F1.out) (by rw [HV.out]), rfl⟩
end Go.Proofs.Ytlalknapmnadpaa
