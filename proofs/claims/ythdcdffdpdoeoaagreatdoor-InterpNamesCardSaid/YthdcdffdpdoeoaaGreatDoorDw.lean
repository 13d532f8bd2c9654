/-
  CONTRACTS OF PACKAGE expr's whole, Whole: whether a tree is whole; the memory that was there stays as it was. Conditions: as they stand.
-/
import Derived.Test.YthdcdffdpdoeoaaGreatDoorDa
namespace Go.Proofs.YthdcdffdpdoeoaaGreatDoor
set_option maxRecDepth 100000
open Go.RowKit
set_option linter.unusedVariables false
theorem opFn_fn (op : Nat) (h4 : 4 ≤ op) (h8 : op ≤ 8) : ∃ k, opFn op = .func (.func k) #[] #[] := by
  obtain h | h | h | h | h : op = 4 ∨ op = 5 ∨ op = 6 ∨ op = 7 ∨ op = 8 := by omega
  all_goals subst h; exact ⟨_, rfl⟩

theorem eqIn_fn (d : Nat) (k : FuncId) (w : World) : (Op.equalIn (d + 1) 130 (.func (.func k) #[] #[]) .nilFunc).run Tryz.prog w = .ok false w := by
  simp [Op.equalIn, run_underlying Tryz.underlying130]
theorem eqIn_nil (d : Nat) (w : World) : (Op.equalIn (d + 1) 130 .nilFunc .nilFunc).run Tryz.prog w = .ok true w := by
  simp [Op.equalIn, run_underlying Tryz.underlying130]
theorem eq_fn (k : FuncId) (w : World) : (Op.equal 130 (.func (.func k) #[] #[]) .nilFunc).run Tryz.prog w = .ok false w := eqIn_fn 9999 k w
theorem eq_nil (w : World) : (Op.equal 130 .nilFunc .nilFunc).run Tryz.prog w = .ok true w := eqIn_nil 9999 w
theorem neq_fn (k : FuncId) (w : World) : (Go.binOp .neq 130 (.func (.func k) #[] #[]) .nilFunc).run Tryz.prog w = .ok (.bool true) w := by
  simp only [Go.binOp]
  simp [eq_fn]
theorem neq_nil (w : World) : (Go.binOp .neq 130 .nilFunc .nilFunc).run Tryz.prog w = .ok (.bool false) w := by
  simp only [Go.binOp]
  simp [eq_nil]
set_option maxRecDepth 100000 in
set_option maxHeartbeats 4000000 in
theorem whole_ops (m : Nat) (hm : m ≤ 100) (op : Nat) (h4 : 4 ≤ op) (h8 : op ≤ 8) (d : Nat) (n : Int) (args : List Ex) (A : Option Addr) (c lo hi : Nat) (w : World) (hk : Kids w lo hi d A args) (hhi : hi ≤ w.heap.size) (q4 : args.length ≤ 9223372036854775807)
    (ih : ∀ (d : Nat) (e : Ex) (v : Value) (lo hi : Nat) (w : World), At w lo hi d v e → hi ≤ w.heap.size → Calls Tryz.prog 81 #[v, .int .i64 m] w fun r w' => r = .returned (.bool (wholeF m e)) ∧ Below w.heap.size w w') :
    Calls Tryz.prog 81 #[.agg #[.int .u8 op, .int .i64 n, .slice A args.length c], .int .i64 (m + 1 : Nat)] w fun r w' => r = .returned (.bool (wholeF (m + 1) (.node op n args))) ∧ Below w.heap.size w w' := by
  have b0 : Below w.heap.size w (w.alloc (.cells #[.int .u8 op, .int .i64 n, .slice A args.length c] 40)) := by go_grown
  have HZ0 : Hid (w.heap.size < (w.alloc (.cells #[.int .u8 op, .int .i64 n, .slice A args.length c] 40)).heap.size) := by show _ < _; simp
  have HK := Lib.hid (Kids.below hk b0 hhi)
  have IH := Lib.hid ih
  have HBX := Lib.hid (Boxed.new w (.int .u8 op) (.int .i64 n) (.slice A args.length c))
  have HB0 := Lib.hid b0
  clear hk ih b0
  obtain ⟨kf, hkf⟩ := opFn_fn op h4 h8
  have HOP : Hid (∀ w, Calls Tryz.prog 83 #[.int .u8 op] w fun r w' => r = .returned (.func (.func kf) #[] #[]) ∧ Below w.heap.size w w') := fun w => by
    have := oper_any op w (by omega)
    rw [hkf] at this
    exact this
  clear hkf
  have hv : wholeF (m + 1) (.node op n args) = (decide (n = 0) && both (fun e => wholeF m e) args) := by rw [wholeF, if_neg (by omega), if_neg (by omega), if_neg (by omega), if_pos (by omega)]
  have e1 : ((op : Int) == 1) = false := beq_eq_false_iff_ne.2 (by omega)
  have e2 : ((op : Int) == 2) = false := beq_eq_false_iff_ne.2 (by omega)
  have e3 : ((op : Int) == 3) = false := beq_eq_false_iff_ne.2 (by omega)
  have hne := neq_fn
  have e0 : (((m + 1 : Nat) : Int) == 0) = false := beq_eq_false_iff_ne.2 (by omega)
  by_cases h0 : n = 0
  · by_cases h2 : args.length = 2
    · match args, h2 with
      | [x1, x2], _ =>
        have HV : Hid (wholeF (m + 1) (.node op n [x1, x2]) = (wholeF m x1 && wholeF m x2)) := by show wholeF _ _ = _; rw [hv, decide_eq_true h0]; rfl
        clear hv
        subst h0
        obtain ⟨a, x, y, z, x', y', z', rfl, m1, m2, t1, t2, hA, hA'⟩ := HK.out.two
        have hz : hi ≤ (w.alloc (.cells #[.int .u8 op, .int .i64 0, .slice (some a) [x1, x2].length c] 40)).heap.size := by simp; omega
        clear h4 h8
        go_enter Tryz.func81, Tryz.ntmps81
        go_upto_region 10 with fail
        have b0 := HB0.out
        have z0 := HZ0.out
        obtain ⟨W, hW⟩ : ∃ W, W = w.alloc (.cells #[.int .u8 op, .int .i64 0, .slice (some a) 2 c] 40) := ⟨_, rfl⟩
        simp only [List.length_cons, List.length_nil, Nat.zero_add, Nat.reduceAdd] at b0 z0 HBX hA hA' t1 t2 hz
        rw [← hW] at b0 z0 HBX hA hA' t1 t2 hz ⊢
        clear hW HB0 HZ0 HK
        have f0 := HBX.out.c0
        have HA := Lib.hid hA
        have HA' := Lib.hid hA'
        have HT1 := Lib.hid t1
        have HT2 := Lib.hid t2
        clear t1 t2 hA hA'
        go_wp2_with fail
        refine (HOP.out _).mono ?_
        rintro r w2 ⟨rfl, b2⟩
        have z2 : w.heap.size < w2.heap.size := by have := b2.size; omega
        have g1 := (HBX.out.below b2 z0).c1
        have g2 := (HBX.out.below b2 z0).c2
        have t1 := HT1.out.below b2 (by omega)
        have ha := t1.c0
        have hb := t1.c1
        have hc := t1.c2
        clear t1 f0
        have HI1 := Lib.hid (IH.out d x1 _ _ _ w2 (HA.out.below b2 hz) (by have := b2.size; omega))
        have HI2 : Hid (∀ W', Below W.heap.size W W' → Calls Tryz.prog 81 #[.agg #[x', y', z'], .int .i64 m] W' fun r w' => r = .returned (.bool (wholeF m x2)) ∧ Below W'.heap.size W' w') :=
          fun W' h' => IH.out d x2 _ _ _ W' (HA'.out.below h' hz) (Nat.le_trans hz h'.size)
        clear hz
        cases hv1 : wholeF m x1 with
        | false =>
          rw [hv1] at HI1 HV
          clear hv1
          go_wp2_with fail
          refine HI1.out.mono ?_
          rintro r w5 ⟨rfl, b5⟩
          go_wp2_with fail
          go_ret
          exact ⟨by rw [HV.out]; rfl, b0.trans ((b2.trans (b5.mono b2.size)).mono b0.size)⟩
        | true =>
          rw [hv1] at HI1 HV
          clear hv1
          go_wp2_with fail
          refine HI1.out.mono ?_
          rintro r w5 ⟨rfl, b5⟩
          have b6 := b2.trans (b5.mono b2.size)
          have g2' := (HBX.out.below b6 z0).c2
          have t5 := HT2.out.below b6 (by omega)
          have ha' : w5.cell? ⟨a.block, a.off + 3, none⟩ = some x' := t5.c0
          have hb' : w5.cell? ⟨a.block, a.off + 3 + 1, none⟩ = some y' := t5.c1
          have hc' : w5.cell? ⟨a.block, a.off + 3 + 2, none⟩ = some z' := t5.c2
          clear t5 g1 g2 ha hb hc
          go_wp2_with fail
          refine (HI2.out w5 b6).mono ?_
          rintro r w6 ⟨rfl, b7⟩
          go_wp2_with fail
          go_ret
          exact ⟨by rw [HV.out]; rfl, b0.trans ((b6.trans (b7.mono b6.size)).mono b0.size)⟩
    · have HV : Hid (wholeF (m + 1) (.node op n args) = false) := by show wholeF _ _ = _; rw [hv, both_no _ _ h2, Bool.and_false]
      have l2 : ((args.length : Int) == 2) = false := beq_eq_false_iff_ne.2 (by omega)
      have l0 : (n == 0) = true := by simp [h0]
      clear hv h2 h0 h4 h8 HK
      go_enter Tryz.func81, Tryz.ntmps81
      go_upto_region 10 with fail
      have b0 := HB0.out
      have z0 := HZ0.out
      have f0 := HBX.out.c0
      obtain ⟨W, hW⟩ : ∃ W, W = w.alloc (.cells #[.int .u8 op, .int .i64 n, .slice A args.length c] 40) := ⟨_, rfl⟩
      rw [← hW] at b0 z0 HBX f0 ⊢
      clear hW HB0 HZ0
      go_wp2_with fail
      refine (HOP.out _).mono ?_
      rintro r w2 ⟨rfl, b2⟩
      have g1 := (HBX.out.below b2 z0).c1
      have g2 := (HBX.out.below b2 z0).c2
      clear f0
      go_wp2_with fail
      go_ret
      exact ⟨by rw [HV.out]; rfl, b0.trans (b2.mono b0.size)⟩
  · have HV : Hid (wholeF (m + 1) (.node op n args) = false) := by show wholeF _ _ = _; rw [hv, decide_eq_false h0, Bool.false_and]
    have l0 : (n == 0) = false := beq_eq_false_iff_ne.2 h0
    clear hv h0 h4 h8 HK
    go_enter Tryz.func81, Tryz.ntmps81
    go_upto_region 10 with fail
    have b0 := HB0.out
    have z0 := HZ0.out
    have f0 := HBX.out.c0
    obtain ⟨W, hW⟩ : ∃ W, W = w.alloc (.cells #[.int .u8 op, .int .i64 n, .slice A args.length c] 40) := ⟨_, rfl⟩
    rw [← hW] at b0 z0 HBX f0 ⊢
    clear hW HB0 HZ0
    go_wp2_with fail
    refine (HOP.out _).mono ?_
    rintro r w2 ⟨rfl, b2⟩
    have g1 := (HBX.out.below b2 z0).c1
    clear f0
    go_wp2_with fail
    go_ret
    exact ⟨by rw [HV.out]; rfl, b0.trans (b2.mono b0.size)⟩

set_option maxRecDepth 100000 in
theorem whole_any (m : Nat) (hm : m ≤ 100) : ∀ (d : Nat) (e : Ex) (v : Value) (lo hi : Nat) (w : World), At w lo hi d v e → hi ≤ w.heap.size →
    Calls Tryz.prog 81 #[v, .int .i64 m] w fun r w' => r = .returned (.bool (wholeF m e)) ∧ Below w.heap.size w w' := by
  induction m with
  | zero =>
    intro d e v lo hi w h hhi
    obtain ⟨d, rfl⟩ : ∃ q, d = q + 1 := by
      cases d with
      | zero => exact h.elim
      | succ q => exact ⟨q, rfl⟩
    obtain ⟨op, n, args⟩ := e
    obtain ⟨q1, q2, q3, q4, A, c, rfl, hk⟩ := h.open_
    have HB0 : Hid (Below w.heap.size w (w.alloc (.cells #[.int .u8 op, .int .i64 n, .slice A args.length c] 40))) := by show Below _ _ _; go_grown
    clear hk h
    go_enter Tryz.func81, Tryz.ntmps81
    go_wp2_with fail
    go_ret
    exact ⟨rfl, HB0.out⟩
  | succ m ih =>
    intro d e v lo hi w h hhi
    obtain ⟨d, rfl⟩ : ∃ q, d = q + 1 := by
      cases d with
      | zero => exact h.elim
      | succ q => exact ⟨q, rfl⟩
    obtain ⟨op, n, args⟩ := e
    obtain ⟨q1, q2, q3, q4, A, c, rfl, hk⟩ := h.open_
    by_cases h4 : 4 ≤ op ∧ op ≤ 8
    · exact whole_ops m (by omega) op h4.1 h4.2 d n args A c lo hi w hk hhi q4 (ih (by omega))
    have HB0 : Hid (Below w.heap.size w (w.alloc (.cells #[.int .u8 op, .int .i64 n, .slice A args.length c] 40))) := by show Below _ _ _; go_grown
    clear hk h ih
    by_cases h1 : op = 1
    · have HV : Hid (wholeF (m + 1) (.node op n args) = decide (args.length = 0)) := by show wholeF _ _ = _; rw [wholeF, if_pos h1]
      have e1 : ((op : Int) == 1) = true := beq_iff_eq.2 (by omega)
      clear h1 h4
      by_cases l0 : args.length = 0
      · have HW := Lib.hid (decide_eq_true l0)
        have l1 : ((args.length : Int) == 0) = true := beq_iff_eq.2 (by omega)
        clear l0
        go_enter Tryz.func81, Tryz.ntmps81
        go_wp2_with fail
        go_ret
        exact ⟨by rw [HV.out, HW.out]; rfl, HB0.out⟩
      · have HW := Lib.hid (decide_eq_false l0)
        have l1 : ((args.length : Int) == 0) = false := beq_eq_false_iff_ne.2 (by omega)
        clear l0
        go_enter Tryz.func81, Tryz.ntmps81
        go_wp2_with fail
        go_ret
        exact ⟨by rw [HV.out, HW.out]; rfl, HB0.out⟩
    by_cases h2 : op = 2
    · have HV : Hid (wholeF (m + 1) (.node op n args) = decide (args.length = 0 ∧ 0 ≤ n ∧ n < 8)) := by show wholeF _ _ = _; rw [wholeF, if_neg h1, if_pos h2]
      have e1 : ((op : Int) == 1) = false := beq_eq_false_iff_ne.2 (by omega)
      have e2 : ((op : Int) == 2) = true := beq_iff_eq.2 (by omega)
      clear h1 h2 h4
      by_cases l0 : args.length = 0
      · have l1 : ((args.length : Int) == 0) = true := beq_iff_eq.2 (by omega)
        by_cases l2 : 0 ≤ n
        · by_cases l3 : n < 8
          · have HW := Lib.hid (decide_eq_true (show args.length = 0 ∧ 0 ≤ n ∧ n < 8 from ⟨l0, l2, l3⟩))
            clear l0
            go_enter Tryz.func81, Tryz.ntmps81
            go_wp2_with fail
            go_ret
            exact ⟨by rw [HV.out, HW.out]; rfl, HB0.out⟩
          · have HW := Lib.hid (decide_eq_false (show ¬ (args.length = 0 ∧ 0 ≤ n ∧ n < 8) from fun h => l3 h.2.2))
            have l4 : decide (n < 8) = false := decide_eq_false l3
            clear l0 l3
            go_enter Tryz.func81, Tryz.ntmps81
            go_wp2_with fail
            go_ret
            exact ⟨by rw [HV.out, HW.out]; rfl, HB0.out⟩
        · have HW := Lib.hid (decide_eq_false (show ¬ (args.length = 0 ∧ 0 ≤ n ∧ n < 8) from fun h => l2 h.2.1))
          have l4 : decide (0 ≤ n) = false := decide_eq_false l2
          clear l0 l2
          go_enter Tryz.func81, Tryz.ntmps81
          go_wp2_with fail
          go_ret
          exact ⟨by rw [HV.out, HW.out]; rfl, HB0.out⟩
      · have HW := Lib.hid (decide_eq_false (show ¬ (args.length = 0 ∧ 0 ≤ n ∧ n < 8) from fun h => l0 h.1))
        have l1 : ((args.length : Int) == 0) = false := beq_eq_false_iff_ne.2 (by omega)
        clear l0
        go_enter Tryz.func81, Tryz.ntmps81
        go_wp2_with fail
        go_ret
        exact ⟨by rw [HV.out, HW.out]; rfl, HB0.out⟩
    by_cases h3 : op = 3
    · have HV : Hid (wholeF (m + 1) (.node op n args) = decide (args.length = 0 ∧ 0 ≤ n ∧ n < 6)) := by show wholeF _ _ = _; rw [wholeF, if_neg h1, if_neg h2, if_pos h3]
      have e1 : ((op : Int) == 1) = false := beq_eq_false_iff_ne.2 (by omega)
      have e2 : ((op : Int) == 2) = false := beq_eq_false_iff_ne.2 (by omega)
      have e3 : ((op : Int) == 3) = true := beq_iff_eq.2 (by omega)
      clear h1 h2 h3 h4
      by_cases l0 : args.length = 0
      · have l1 : ((args.length : Int) == 0) = true := beq_iff_eq.2 (by omega)
        by_cases l2 : 0 ≤ n
        · by_cases l3 : n < 6
          · have HW := Lib.hid (decide_eq_true (show args.length = 0 ∧ 0 ≤ n ∧ n < 6 from ⟨l0, l2, l3⟩))
            clear l0
            go_enter Tryz.func81, Tryz.ntmps81
            go_wp2_with fail
            go_ret
            exact ⟨by rw [HV.out, HW.out]; rfl, HB0.out⟩
          · have HW := Lib.hid (decide_eq_false (show ¬ (args.length = 0 ∧ 0 ≤ n ∧ n < 6) from fun h => l3 h.2.2))
            have l4 : decide (n < 6) = false := decide_eq_false l3
            clear l0 l3
            go_enter Tryz.func81, Tryz.ntmps81
            go_wp2_with fail
            go_ret
            exact ⟨by rw [HV.out, HW.out]; rfl, HB0.out⟩
        · have HW := Lib.hid (decide_eq_false (show ¬ (args.length = 0 ∧ 0 ≤ n ∧ n < 6) from fun h => l2 h.2.1))
          have l4 : decide (0 ≤ n) = false := decide_eq_false l2
          clear l0 l2
          go_enter Tryz.func81, Tryz.ntmps81
          go_wp2_with fail
          go_ret
          exact ⟨by rw [HV.out, HW.out]; rfl, HB0.out⟩
      · have HW := Lib.hid (decide_eq_false (show ¬ (args.length = 0 ∧ 0 ≤ n ∧ n < 6) from fun h => l0 h.1))
        have l1 : ((args.length : Int) == 0) = false := beq_eq_false_iff_ne.2 (by omega)
        clear l0
        go_enter Tryz.func81, Tryz.ntmps81
        go_wp2_with fail
        go_ret
        exact ⟨by rw [HV.out, HW.out]; rfl, HB0.out⟩
    have HV : Hid (wholeF (m + 1) (.node op n args) = false) := by show wholeF _ _ = _; rw [wholeF, if_neg h1, if_neg h2, if_neg h3, if_neg (by omega)]
    have e1 : ((op : Int) == 1) = false := beq_eq_false_iff_ne.2 (by omega)
    have e2 : ((op : Int) == 2) = false := beq_eq_false_iff_ne.2 (by omega)
    have e3 : ((op : Int) == 3) = false := beq_eq_false_iff_ne.2 (by omega)
    have e4 : ((op : Int) == 4) = false := beq_eq_false_iff_ne.2 (by omega)
    have e5 : ((op : Int) == 5) = false := beq_eq_false_iff_ne.2 (by omega)
    have e6 : ((op : Int) == 6) = false := beq_eq_false_iff_ne.2 (by omega)
    have e7 : ((op : Int) == 7) = false := beq_eq_false_iff_ne.2 (by omega)
    have e8 : ((op : Int) == 8) = false := beq_eq_false_iff_ne.2 (by omega)
    have HOP : Hid (∀ w, Calls Tryz.prog 83 #[.int .u8 op] w fun r w' => r = .returned .nilFunc ∧ Below w.heap.size w w') := fun w => by
      have := oper_any op w q1
      have e : opFn op = .nilFunc := by unfold opFn; rw [if_neg (by omega), if_neg (by omega), if_neg (by omega), if_neg (by omega), if_neg (by omega)]
      rw [e] at this
      exact this
    have hne := neq_nil
    clear h1 h2 h3 h4
    go_enter Tryz.func81, Tryz.ntmps81
    go_upto_region 10 with fail
    have b0 := HB0.out
    obtain ⟨W, hW⟩ : ∃ W, W = w.alloc (.cells #[.int .u8 op, .int .i64 n, .slice A args.length c] 40) := ⟨_, rfl⟩
    have f0 := (Boxed.new w (.int .u8 op) (.int .i64 n) (.slice A args.length c)).c0
    rw [← hW] at b0 f0 ⊢
    clear hW HB0
    go_wp2_with fail
    refine (HOP.out _).mono ?_
    rintro r w2 ⟨rfl, b2⟩
    go_wp2_with fail
    go_ret
    exact ⟨by rw [HV.out]; rfl, b0.trans (b2.mono b0.size)⟩
end Go.Proofs.YthdcdffdpdoeoaaGreatDoor
