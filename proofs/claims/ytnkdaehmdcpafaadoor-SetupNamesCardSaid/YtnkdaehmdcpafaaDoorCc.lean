/-
  CONTRACTS OF PACKAGE code's count, none, mayBe: of how many expressions one is; whether there is none; whether it may be; the memory that was there stays as it was. Conditions: as they stand.
-/
import Derived.Test.YtnkdaehmdcpafaaDoorCm
import Derived.Test.YtnkdaehmdcpafaaDoorDy
namespace Go.Proofs.YtnkdaehmdcpafaaDoor
open Go.RowKit
set_option linter.unusedVariables false
set_option maxRecDepth 100000 in
theorem none_any (d : Nat) (e : Ex) (v : Value) (lo hi : Nat) (w : World) (h : At w lo hi d v e) :
    Calls Tryd.prog 68 #[v] w fun r w' => r = .returned (.bool (noneE e)) ∧ Below w.heap.size w w' := by
  obtain ⟨d, rfl⟩ : ∃ q, d = q + 1 := by
    cases d with
    | zero => exact h.elim
    | succ q => exact ⟨q, rfl⟩
  obtain ⟨op, n, args⟩ := e
  obtain ⟨q1, q2, q3, q4, A, c, rfl, hk⟩ := h.open_
  have HB0 := Lib.hid (boxed_below w (.int .u8 op) (.int .i64 n) (.slice A args.length c))
  clear hk h
  by_cases h0 : op = 0
  · have t0 : ((op : Int) == 0) = true := by simp; omega
    by_cases h1 : n = 0
    · have HV : Hid (noneE (.node op n args) = ((args.length : Int) == 0)) := by
        show noneE _ = _
        rw [show noneE (.node op n args) = (decide (op = 0) && (decide (n = 0) && decide (args.length = 0))) from rfl, decide_eq_true h0, decide_eq_true h1, Bool.true_and, Bool.true_and]
        by_cases hl : args.length = 0
        · rw [decide_eq_true hl]; symm; exact beq_iff_eq.2 (by omega)
        · rw [decide_eq_false hl]; symm; exact beq_eq_false_iff_ne.2 (by omega)
      have t1 : (n == 0) = true := by simp [h1]
      clear h0 h1
      go_enter Tryd.func68, Tryd.ntmps68
      go_wp2_with fail
      go_ret
      exact ⟨by rw [HV.out]; rfl, HB0.out⟩
    · have HV : Hid (noneE (.node op n args) = false) := by
        show noneE _ = _
        rw [show noneE (.node op n args) = (decide (op = 0) && (decide (n = 0) && decide (args.length = 0))) from rfl, decide_eq_false h1, Bool.false_and, Bool.and_false]
      have t1 : (n == 0) = false := by simp [h1]
      clear h0 h1
      go_enter Tryd.func68, Tryd.ntmps68
      go_wp2_with fail
      go_ret
      exact ⟨by rw [HV.out]; rfl, HB0.out⟩
  · have HV : Hid (noneE (.node op n args) = false) := by
      show noneE _ = _
      rw [show noneE (.node op n args) = (decide (op = 0) && (decide (n = 0) && decide (args.length = 0))) from rfl, decide_eq_false h0, Bool.false_and]
    have t0 : ((op : Int) == 0) = false := by simp; omega
    clear h0
    go_enter Tryd.func68, Tryd.ntmps68
    go_wp2_with fail
    go_ret
    exact ⟨by rw [HV.out]; rfl, HB0.out⟩
set_option maxRecDepth 100000 in
theorem cnte_any (d : Nat) (e : Ex) (v : Value) (lo hi : Nat) (w : World) (h : At w lo hi d v e) (hhi : hi ≤ w.heap.size) (hc : e.op = 0 ∨ cnt d e ≤ 100000) :
    Calls Tryd.prog 60 #[v] w fun r w' => r = .returned (.int .i64 (cntE d e : Nat)) ∧ Below w.heap.size w w' := by
  obtain ⟨d, rfl⟩ : ∃ q, d = q + 1 := by
    cases d with
    | zero => exact h.elim
    | succ q => exact ⟨q, rfl⟩
  obtain ⟨op, n, args⟩ := e
  have hh := h
  obtain ⟨q1, q2, q3, q4, A, c, rfl, hk⟩ := h.open_
  have b0 := boxed_below w (.int .u8 op) (.int .i64 n) (.slice A args.length c)
  have hA := hh.below b0 hhi
  have HB0 := Lib.hid b0
  by_cases h0 : op = 0
  · have HV : Hid (cntE (d + 1) (.node op n args) = 0) := by
      show cntE _ _ = _
      exact if_pos h0
    have t0 : ((op : Int) == 0) = true := by simp; omega
    clear hk hh h b0 hA h0 hc
    go_enter Tryd.func60, Tryd.ntmps60
    go_wp2_with fail
    go_ret
    exact ⟨by rw [HV.out]; rfl, HB0.out⟩
  · have HV : Hid (cntE (d + 1) (.node op n args) = cnt (d + 1) (.node op n args)) := by
      show cntE _ _ = _
      exact if_neg h0
    have HC := Lib.hid (count_any (d + 1) (.node op n args) _ lo hi _ hA (by simp; omega) (hc.resolve_left h0))
    have t0 : ((op : Int) == 0) = false := by simp; omega
    clear hk hh h b0 hA h0 hc
    go_enter Tryd.func60, Tryd.ntmps60
    go_wp2_with fail
    refine HC.out.mono ?_
    rintro r w5 ⟨rfl, b5⟩
    go_wp2_with fail
    go_ret
    exact ⟨by rw [HV.out]; rfl, HB0.out.trans (b5.mono HB0.out.size)⟩
set_option maxRecDepth 100000 in
theorem maybe_any (d : Nat) (e : Ex) (v : Value) (lo hi : Nat) (m : Int) (hm0 : -9223372036854775808 ≤ m) (hm1 : m < 9223372036854775808) (w : World) (h : At w lo hi d v e) (hhi : hi ≤ w.heap.size) :
    Calls Tryd.prog 69 #[v, .int .i64 m] w fun r w' => r = .returned (.bool (mayE d e m)) ∧ Below w.heap.size w w' := by
  obtain ⟨d, rfl⟩ : ∃ q, d = q + 1 := by
    cases d with
    | zero => exact h.elim
    | succ q => exact ⟨q, rfl⟩
  obtain ⟨op, n, args⟩ := e
  have hh := h
  obtain ⟨q1, q2, q3, q4, A, c, rfl, hk⟩ := h.open_
  have b0 := boxed_below w (.int .u8 op) (.int .i64 n) (.slice A args.length c)
  have hbx := Boxed.new w (.int .u8 op) (.int .i64 n) (.slice A args.length c)
  have z0 : w.heap.size < (w.alloc (.cells #[.int .u8 op, .int .i64 n, .slice A args.length c] 37)).heap.size := by simp
  have hA := hh.below b0 hhi
  have HM := Lib.hid (none_any (d + 1) _ _ lo hi _ hA)
  have HN : Hid (∀ W', Below (w.alloc (.cells #[.int .u8 op, .int .i64 n, .slice A args.length c] 37)).heap.size (w.alloc (.cells #[.int .u8 op, .int .i64 n, .slice A args.length c] 37)) W' → Calls Tryd.prog 75 #[.agg #[.int .u8 op, .int .i64 n, .slice A args.length c], .int .i64 m] W' fun r w' => r = .returned (.bool (wholeF 6 (.node op n args) && belowF (d + 1) (.node op n args) m)) ∧ Below W'.heap.size W' w') :=
    fun W' h' => may_any (d + 1) _ _ lo hi m hm0 hm1 W' (hA.below h' (by simp; omega)) (by have := h'.size; simp at this; omega)
  have HB0 := Lib.hid b0
  have HBX := Lib.hid hbx
  have HZ0 := Lib.hid z0
  obtain ⟨e, he⟩ : ∃ e, e = Ex.node op n args := ⟨_, rfl⟩
  rw [← he] at HM HN ⊢
  clear hk hh h b0 hbx z0 hA he
  cases hv : noneE e with
  | true =>
    rw [hv] at HM
    have HV : Hid (mayE (d + 1) e m = true) := by show mayE _ _ _ = _; rw [mayE, hv]; rfl
    clear hv
    go_enter Tryd.func69, Tryd.ntmps69
    go_wp2_with fail
    refine HM.out.mono ?_
    rintro r w5 ⟨rfl, b5⟩
    go_wp2_with fail
    go_ret
    exact ⟨by rw [HV.out]; rfl, HB0.out.trans (b5.mono HB0.out.size)⟩
  | false =>
    rw [hv] at HM
    have HV : Hid (mayE (d + 1) e m = (wholeF 6 e && belowF (d + 1) e m)) := by show mayE _ _ _ = _; rw [mayE, hv]; rfl
    clear hv
    go_enter Tryd.func69, Tryd.ntmps69
    go_wp2_with fail
    refine HM.out.mono ?_
    rintro r w5 ⟨rfl, b5⟩
    have g0 := (HBX.out.below b5 HZ0.out).c0
    have g1 := (HBX.out.below b5 HZ0.out).c1
    have g2 := (HBX.out.below b5 HZ0.out).c2
    go_wp2_with fail
    refine (HN.out w5 b5).mono ?_
    rintro r w6 ⟨rfl, b6⟩
    go_wp2_with fail
    go_ret
    exact ⟨by rw [HV.out]; rfl, HB0.out.trans ((b5.trans (b6.mono b5.size)).mono HB0.out.size)⟩
end Go.Proofs.YtnkdaehmdcpafaaDoor
