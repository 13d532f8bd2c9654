/-
  CONTRACTS OF seesawref04's whole, Whole, May (the document's own answers of layer 4); the memory that was there stays as it was. Conditions: as they stand.
-/
import Derived.Test.YtlalknapmnadpaaEr
import Derived.Deep.DeepCutAuto
import Derived.Deep.CutBlock
namespace Go.Proofs.Ytlalknapmnadpaa
open Go.RowKit
set_option linter.unusedVariables false

set_option maxRecDepth 100000 in
set_option maxHeartbeats 4000000 in
theorem rwhole_ops (m : Nat) (hm : m ≤ 100) (op : Nat) (h4 : op = 4 ∨ op = 5 ∨ op = 6 ∨ op = 7 ∨ op = 8) (d : Nat) (n : Int) (args : List Ex) (A : Option Addr) (c lo hi : Nat) (w : World) (hk : Kids w lo hi d A args) (hhi : hi ≤ w.heap.size) (q4 : args.length ≤ 9223372036854775807)
    (ih : ∀ (d : Nat) (e : Ex) (v : Value) (lo hi : Nat) (w : World), At w lo hi d v e → hi ≤ w.heap.size → Calls Try.prog 35 #[v, .int .i64 m] w fun r w' => r = .returned (.bool (wholeF m e)) ∧ Below w.heap.size w w') :
    Calls Try.prog 35 #[.agg #[.int .u8 op, .int .i64 n, .slice A args.length c], .int .i64 (m + 1 : Nat)] w fun r w' => r = .returned (.bool (wholeF (m + 1) (.node op n args))) ∧ Below w.heap.size w w' := by
  have b0 : Below w.heap.size w (w.alloc (.cells #[.int .u8 op, .int .i64 n, .slice A args.length c] 24)) := by go_grown
  have HZ0 : Hid (w.heap.size < (w.alloc (.cells #[.int .u8 op, .int .i64 n, .slice A args.length c] 24)).heap.size) := by show _ < _; simp
  have HK := Lib.hid (Kids.below hk b0 hhi)
  have IH := Lib.hid ih
  have HBX := Lib.hid (Boxed.new w (.int .u8 op) (.int .i64 n) (.slice A args.length c))
  have HB0 := Lib.hid b0
  clear hk ih b0
  have hv : wholeF (m + 1) (.node op n args) = (decide (n = 0) && both (fun e => wholeF m e) args) := by rw [wholeF, if_neg (by omega), if_neg (by omega), if_neg (by omega), if_pos (by omega)]
  by_cases h0 : n = 0
  · by_cases h2 : args.length = 2
    · match args, h2 with
      | [x1, x2], _ =>
        have HV : Hid (wholeF (m + 1) (.node op n [x1, x2]) = (wholeF m x1 && wholeF m x2)) := by show wholeF _ _ = _; rw [hv, decide_eq_true h0]; rfl
        clear hv
        subst h0
        obtain ⟨a, x, y, z, x', y', z', rfl, m1, m2, t1, t2, hA, hA'⟩ := HK.out.two
        have hz : hi ≤ (w.alloc (.cells #[.int .u8 op, .int .i64 0, .slice (some a) [x1, x2].length c] 24)).heap.size := by simp; omega
        rcases h4 with h4 | h4 | h4 | h4 | h4
        · -- the operator 4
          have e1 : ((op : Int) == 1) = false := beq_eq_false_iff_ne.2 (by omega)
          have e2 : ((op : Int) == 2) = false := beq_eq_false_iff_ne.2 (by omega)
          have e3 : ((op : Int) == 3) = false := beq_eq_false_iff_ne.2 (by omega)
          have e4 : ((op : Int) == 4) = true := beq_iff_eq.2 (by omega)
          clear h4
          go_enter Try.func35, Try.ntmps35
          go_upto_region 15 with fail
          have b0 := HB0.out
          have z0 := HZ0.out
          obtain ⟨W, hW⟩ : ∃ W, W = w.alloc (.cells #[.int .u8 op, .int .i64 0, .slice (some a) 2 c] 24) := ⟨_, rfl⟩
          have f0 := HBX.out.c0
          have f1 := HBX.out.c1
          have f2 := HBX.out.c2
          have ha := t1.c0
          have hb := t1.c1
          have hc := t1.c2
          have hx := t2.below (B := hi) (Below.refl _ _) (by omega)
          have HA := Lib.hid hA
          have HA' := Lib.hid hA'
          have HT2 := Lib.hid t2
          simp only [List.length_cons, List.length_nil, Nat.zero_add, Nat.reduceAdd] at b0 z0 f0 f1 f2 ha hb hc HA HA' HT2 hz
          rw [← hW] at b0 z0 f0 f1 f2 ha hb hc HA HA' HT2 hz ⊢
          clear hW HB0 HZ0 HBX HK t1 t2 hA hA' hx
          have HI1 := Lib.hid (IH.out d x1 _ _ _ W HA.out hz)
          have HI2 : Hid (∀ W', Below W.heap.size W W' → Calls Try.prog 35 #[.agg #[x', y', z'], .int .i64 m] W' fun r w' => r = .returned (.bool (wholeF m x2)) ∧ Below W'.heap.size W' w') :=
            fun W' h' => IH.out d x2 _ _ _ W' (HA'.out.below h' hz) (Nat.le_trans hz h'.size)
          cases hv1 : wholeF m x1 with
          | false =>
            rw [hv1] at HI1 HV
            clear hv1
            go_wp2_with fail
            refine HI1.out.mono ?_
            rintro r w5 ⟨rfl, b5⟩
            go_wp2_with fail
            go_ret
            exact ⟨by rw [HV.out]; rfl, b0.trans (b5.mono b0.size)⟩
          | true =>
            rw [hv1] at HI1 HV
            clear hv1
            go_wp2_with fail
            refine HI1.out.mono ?_
            rintro r w5 ⟨rfl, b5⟩
            have f2' := (b5.cell (p := ⟨w.heap.size, 2, none⟩) z0).trans f2
            have t5 := HT2.out.below b5 (by omega)
            have ha' : w5.cell? ⟨a.block, a.off + 3, none⟩ = some x' := t5.c0
            have hb' : w5.cell? ⟨a.block, a.off + 3 + 1, none⟩ = some y' := t5.c1
            have hc' : w5.cell? ⟨a.block, a.off + 3 + 2, none⟩ = some z' := t5.c2
            clear t5 f0 f1 f2 ha hb hc
            go_wp2_with fail
            refine (HI2.out w5 b5).mono ?_
            rintro r w6 ⟨rfl, b6⟩
            go_wp2_with fail
            go_ret
            exact ⟨by rw [HV.out]; rfl, b0.trans ((b5.trans (b6.mono b5.size)).mono b0.size)⟩
        · -- the operator 5
          have e1 : ((op : Int) == 1) = false := beq_eq_false_iff_ne.2 (by omega)
          have e2 : ((op : Int) == 2) = false := beq_eq_false_iff_ne.2 (by omega)
          have e3 : ((op : Int) == 3) = false := beq_eq_false_iff_ne.2 (by omega)
          have e4 : ((op : Int) == 4) = false := beq_eq_false_iff_ne.2 (by omega)
          have e5 : ((op : Int) == 5) = true := beq_iff_eq.2 (by omega)
          clear h4
          go_enter Try.func35, Try.ntmps35
          go_upto_region 15 with fail
          have b0 := HB0.out
          have z0 := HZ0.out
          obtain ⟨W, hW⟩ : ∃ W, W = w.alloc (.cells #[.int .u8 op, .int .i64 0, .slice (some a) 2 c] 24) := ⟨_, rfl⟩
          have f0 := HBX.out.c0
          have f1 := HBX.out.c1
          have f2 := HBX.out.c2
          have ha := t1.c0
          have hb := t1.c1
          have hc := t1.c2
          have hx := t2.below (B := hi) (Below.refl _ _) (by omega)
          have HA := Lib.hid hA
          have HA' := Lib.hid hA'
          have HT2 := Lib.hid t2
          simp only [List.length_cons, List.length_nil, Nat.zero_add, Nat.reduceAdd] at b0 z0 f0 f1 f2 ha hb hc HA HA' HT2 hz
          rw [← hW] at b0 z0 f0 f1 f2 ha hb hc HA HA' HT2 hz ⊢
          clear hW HB0 HZ0 HBX HK t1 t2 hA hA' hx
          have HI1 := Lib.hid (IH.out d x1 _ _ _ W HA.out hz)
          have HI2 : Hid (∀ W', Below W.heap.size W W' → Calls Try.prog 35 #[.agg #[x', y', z'], .int .i64 m] W' fun r w' => r = .returned (.bool (wholeF m x2)) ∧ Below W'.heap.size W' w') :=
            fun W' h' => IH.out d x2 _ _ _ W' (HA'.out.below h' hz) (Nat.le_trans hz h'.size)
          cases hv1 : wholeF m x1 with
          | false =>
            rw [hv1] at HI1 HV
            clear hv1
            go_wp2_with fail
            refine HI1.out.mono ?_
            rintro r w5 ⟨rfl, b5⟩
            go_wp2_with fail
            go_ret
            exact ⟨by rw [HV.out]; rfl, b0.trans (b5.mono b0.size)⟩
          | true =>
            rw [hv1] at HI1 HV
            clear hv1
            go_wp2_with fail
            refine HI1.out.mono ?_
            rintro r w5 ⟨rfl, b5⟩
            have f2' := (b5.cell (p := ⟨w.heap.size, 2, none⟩) z0).trans f2
            have t5 := HT2.out.below b5 (by omega)
            have ha' : w5.cell? ⟨a.block, a.off + 3, none⟩ = some x' := t5.c0
            have hb' : w5.cell? ⟨a.block, a.off + 3 + 1, none⟩ = some y' := t5.c1
            have hc' : w5.cell? ⟨a.block, a.off + 3 + 2, none⟩ = some z' := t5.c2
            clear t5 f0 f1 f2 ha hb hc
            go_wp2_with fail
            refine (HI2.out w5 b5).mono ?_
            rintro r w6 ⟨rfl, b6⟩
            go_wp2_with fail
            go_ret
            exact ⟨by rw [HV.out]; rfl, b0.trans ((b5.trans (b6.mono b5.size)).mono b0.size)⟩
        · -- the operator 6
          have e1 : ((op : Int) == 1) = false := beq_eq_false_iff_ne.2 (by omega)
          have e2 : ((op : Int) == 2) = false := beq_eq_false_iff_ne.2 (by omega)
          have e3 : ((op : Int) == 3) = false := beq_eq_false_iff_ne.2 (by omega)
          have e4 : ((op : Int) == 4) = false := beq_eq_false_iff_ne.2 (by omega)
          have e5 : ((op : Int) == 5) = false := beq_eq_false_iff_ne.2 (by omega)
          have e6 : ((op : Int) == 6) = true := beq_iff_eq.2 (by omega)
          clear h4
          go_enter Try.func35, Try.ntmps35
          go_upto_region 15 with fail
          have b0 := HB0.out
          have z0 := HZ0.out
          obtain ⟨W, hW⟩ : ∃ W, W = w.alloc (.cells #[.int .u8 op, .int .i64 0, .slice (some a) 2 c] 24) := ⟨_, rfl⟩
          have f0 := HBX.out.c0
          have f1 := HBX.out.c1
          have f2 := HBX.out.c2
          have ha := t1.c0
          have hb := t1.c1
          have hc := t1.c2
          have hx := t2.below (B := hi) (Below.refl _ _) (by omega)
          have HA := Lib.hid hA
          have HA' := Lib.hid hA'
          have HT2 := Lib.hid t2
          simp only [List.length_cons, List.length_nil, Nat.zero_add, Nat.reduceAdd] at b0 z0 f0 f1 f2 ha hb hc HA HA' HT2 hz
          rw [← hW] at b0 z0 f0 f1 f2 ha hb hc HA HA' HT2 hz ⊢
          clear hW HB0 HZ0 HBX HK t1 t2 hA hA' hx
          have HI1 := Lib.hid (IH.out d x1 _ _ _ W HA.out hz)
          have HI2 : Hid (∀ W', Below W.heap.size W W' → Calls Try.prog 35 #[.agg #[x', y', z'], .int .i64 m] W' fun r w' => r = .returned (.bool (wholeF m x2)) ∧ Below W'.heap.size W' w') :=
            fun W' h' => IH.out d x2 _ _ _ W' (HA'.out.below h' hz) (Nat.le_trans hz h'.size)
          cases hv1 : wholeF m x1 with
          | false =>
            rw [hv1] at HI1 HV
            clear hv1
            go_wp2_with fail
            refine HI1.out.mono ?_
            rintro r w5 ⟨rfl, b5⟩
            go_wp2_with fail
            go_ret
            exact ⟨by rw [HV.out]; rfl, b0.trans (b5.mono b0.size)⟩
          | true =>
            rw [hv1] at HI1 HV
            clear hv1
            go_wp2_with fail
            refine HI1.out.mono ?_
            rintro r w5 ⟨rfl, b5⟩
            have f2' := (b5.cell (p := ⟨w.heap.size, 2, none⟩) z0).trans f2
            have t5 := HT2.out.below b5 (by omega)
            have ha' : w5.cell? ⟨a.block, a.off + 3, none⟩ = some x' := t5.c0
            have hb' : w5.cell? ⟨a.block, a.off + 3 + 1, none⟩ = some y' := t5.c1
            have hc' : w5.cell? ⟨a.block, a.off + 3 + 2, none⟩ = some z' := t5.c2
            clear t5 f0 f1 f2 ha hb hc
            go_wp2_with fail
            refine (HI2.out w5 b5).mono ?_
            rintro r w6 ⟨rfl, b6⟩
            go_wp2_with fail
            go_ret
            exact ⟨by rw [HV.out]; rfl, b0.trans ((b5.trans (b6.mono b5.size)).mono b0.size)⟩
        · -- the operator 7
          have e1 : ((op : Int) == 1) = false := beq_eq_false_iff_ne.2 (by omega)
          have e2 : ((op : Int) == 2) = false := beq_eq_false_iff_ne.2 (by omega)
          have e3 : ((op : Int) == 3) = false := beq_eq_false_iff_ne.2 (by omega)
          have e4 : ((op : Int) == 4) = false := beq_eq_false_iff_ne.2 (by omega)
          have e5 : ((op : Int) == 5) = false := beq_eq_false_iff_ne.2 (by omega)
          have e6 : ((op : Int) == 6) = false := beq_eq_false_iff_ne.2 (by omega)
          have e7 : ((op : Int) == 7) = true := beq_iff_eq.2 (by omega)
          clear h4
          go_enter Try.func35, Try.ntmps35
          go_upto_region 15 with fail
          have b0 := HB0.out
          have z0 := HZ0.out
          obtain ⟨W, hW⟩ : ∃ W, W = w.alloc (.cells #[.int .u8 op, .int .i64 0, .slice (some a) 2 c] 24) := ⟨_, rfl⟩
          have f0 := HBX.out.c0
          have f1 := HBX.out.c1
          have f2 := HBX.out.c2
          have ha := t1.c0
          have hb := t1.c1
          have hc := t1.c2
          have hx := t2.below (B := hi) (Below.refl _ _) (by omega)
          have HA := Lib.hid hA
          have HA' := Lib.hid hA'
          have HT2 := Lib.hid t2
          simp only [List.length_cons, List.length_nil, Nat.zero_add, Nat.reduceAdd] at b0 z0 f0 f1 f2 ha hb hc HA HA' HT2 hz
          rw [← hW] at b0 z0 f0 f1 f2 ha hb hc HA HA' HT2 hz ⊢
          clear hW HB0 HZ0 HBX HK t1 t2 hA hA' hx
          have HI1 := Lib.hid (IH.out d x1 _ _ _ W HA.out hz)
          have HI2 : Hid (∀ W', Below W.heap.size W W' → Calls Try.prog 35 #[.agg #[x', y', z'], .int .i64 m] W' fun r w' => r = .returned (.bool (wholeF m x2)) ∧ Below W'.heap.size W' w') :=
            fun W' h' => IH.out d x2 _ _ _ W' (HA'.out.below h' hz) (Nat.le_trans hz h'.size)
          cases hv1 : wholeF m x1 with
          | false =>
            rw [hv1] at HI1 HV
            clear hv1
            go_wp2_with fail
            refine HI1.out.mono ?_
            rintro r w5 ⟨rfl, b5⟩
            go_wp2_with fail
            go_ret
            exact ⟨by rw [HV.out]; rfl, b0.trans (b5.mono b0.size)⟩
          | true =>
            rw [hv1] at HI1 HV
            clear hv1
            go_wp2_with fail
            refine HI1.out.mono ?_
            rintro r w5 ⟨rfl, b5⟩
            have f2' := (b5.cell (p := ⟨w.heap.size, 2, none⟩) z0).trans f2
            have t5 := HT2.out.below b5 (by omega)
            have ha' : w5.cell? ⟨a.block, a.off + 3, none⟩ = some x' := t5.c0
            have hb' : w5.cell? ⟨a.block, a.off + 3 + 1, none⟩ = some y' := t5.c1
            have hc' : w5.cell? ⟨a.block, a.off + 3 + 2, none⟩ = some z' := t5.c2
            clear t5 f0 f1 f2 ha hb hc
            go_wp2_with fail
            refine (HI2.out w5 b5).mono ?_
            rintro r w6 ⟨rfl, b6⟩
            go_wp2_with fail
            go_ret
            exact ⟨by rw [HV.out]; rfl, b0.trans ((b5.trans (b6.mono b5.size)).mono b0.size)⟩
        · -- the operator 8
          have e1 : ((op : Int) == 1) = false := beq_eq_false_iff_ne.2 (by omega)
          have e2 : ((op : Int) == 2) = false := beq_eq_false_iff_ne.2 (by omega)
          have e3 : ((op : Int) == 3) = false := beq_eq_false_iff_ne.2 (by omega)
          have e4 : ((op : Int) == 4) = false := beq_eq_false_iff_ne.2 (by omega)
          have e5 : ((op : Int) == 5) = false := beq_eq_false_iff_ne.2 (by omega)
          have e6 : ((op : Int) == 6) = false := beq_eq_false_iff_ne.2 (by omega)
          have e7 : ((op : Int) == 7) = false := beq_eq_false_iff_ne.2 (by omega)
          have e8 : ((op : Int) == 8) = true := beq_iff_eq.2 (by omega)
          clear h4
          go_enter Try.func35, Try.ntmps35
          go_upto_region 15 with fail
          have b0 := HB0.out
          have z0 := HZ0.out
          obtain ⟨W, hW⟩ : ∃ W, W = w.alloc (.cells #[.int .u8 op, .int .i64 0, .slice (some a) 2 c] 24) := ⟨_, rfl⟩
          have f0 := HBX.out.c0
          have f1 := HBX.out.c1
          have f2 := HBX.out.c2
          have ha := t1.c0
          have hb := t1.c1
          have hc := t1.c2
          have hx := t2.below (B := hi) (Below.refl _ _) (by omega)
          have HA := Lib.hid hA
          have HA' := Lib.hid hA'
          have HT2 := Lib.hid t2
          simp only [List.length_cons, List.length_nil, Nat.zero_add, Nat.reduceAdd] at b0 z0 f0 f1 f2 ha hb hc HA HA' HT2 hz
          rw [← hW] at b0 z0 f0 f1 f2 ha hb hc HA HA' HT2 hz ⊢
          clear hW HB0 HZ0 HBX HK t1 t2 hA hA' hx
          have HI1 := Lib.hid (IH.out d x1 _ _ _ W HA.out hz)
          have HI2 : Hid (∀ W', Below W.heap.size W W' → Calls Try.prog 35 #[.agg #[x', y', z'], .int .i64 m] W' fun r w' => r = .returned (.bool (wholeF m x2)) ∧ Below W'.heap.size W' w') :=
            fun W' h' => IH.out d x2 _ _ _ W' (HA'.out.below h' hz) (Nat.le_trans hz h'.size)
          cases hv1 : wholeF m x1 with
          | false =>
            rw [hv1] at HI1 HV
            clear hv1
            go_wp2_with fail
            refine HI1.out.mono ?_
            rintro r w5 ⟨rfl, b5⟩
            go_wp2_with fail
            go_ret
            exact ⟨by rw [HV.out]; rfl, b0.trans (b5.mono b0.size)⟩
          | true =>
            rw [hv1] at HI1 HV
            clear hv1
            go_wp2_with fail
            refine HI1.out.mono ?_
            rintro r w5 ⟨rfl, b5⟩
            have f2' := (b5.cell (p := ⟨w.heap.size, 2, none⟩) z0).trans f2
            have t5 := HT2.out.below b5 (by omega)
            have ha' : w5.cell? ⟨a.block, a.off + 3, none⟩ = some x' := t5.c0
            have hb' : w5.cell? ⟨a.block, a.off + 3 + 1, none⟩ = some y' := t5.c1
            have hc' : w5.cell? ⟨a.block, a.off + 3 + 2, none⟩ = some z' := t5.c2
            clear t5 f0 f1 f2 ha hb hc
            go_wp2_with fail
            refine (HI2.out w5 b5).mono ?_
            rintro r w6 ⟨rfl, b6⟩
            go_wp2_with fail
            go_ret
            exact ⟨by rw [HV.out]; rfl, b0.trans ((b5.trans (b6.mono b5.size)).mono b0.size)⟩
    · have HV : Hid (wholeF (m + 1) (.node op n args) = false) := by show wholeF _ _ = _; rw [hv, both_no _ _ h2, Bool.and_false]
      have l2 : ((args.length : Int) == 2) = false := beq_eq_false_iff_ne.2 (by omega)
      have l0 : (n == 0) = true := by simp [h0]
      clear hv h2 h0
      rcases h4 with h4 | h4 | h4 | h4 | h4
      · -- the operator 4
        have e1 : ((op : Int) == 1) = false := beq_eq_false_iff_ne.2 (by omega)
        have e2 : ((op : Int) == 2) = false := beq_eq_false_iff_ne.2 (by omega)
        have e3 : ((op : Int) == 3) = false := beq_eq_false_iff_ne.2 (by omega)
        have e4 : ((op : Int) == 4) = true := beq_iff_eq.2 (by omega)
        clear h4
        go_enter Try.func35, Try.ntmps35
        go_wp2_with fail
        go_ret
        exact ⟨by rw [HV.out]; rfl, HB0.out⟩
      · -- the operator 5
        have e1 : ((op : Int) == 1) = false := beq_eq_false_iff_ne.2 (by omega)
        have e2 : ((op : Int) == 2) = false := beq_eq_false_iff_ne.2 (by omega)
        have e3 : ((op : Int) == 3) = false := beq_eq_false_iff_ne.2 (by omega)
        have e4 : ((op : Int) == 4) = false := beq_eq_false_iff_ne.2 (by omega)
        have e5 : ((op : Int) == 5) = true := beq_iff_eq.2 (by omega)
        clear h4
        go_enter Try.func35, Try.ntmps35
        go_wp2_with fail
        go_ret
        exact ⟨by rw [HV.out]; rfl, HB0.out⟩
      · -- the operator 6
        have e1 : ((op : Int) == 1) = false := beq_eq_false_iff_ne.2 (by omega)
        have e2 : ((op : Int) == 2) = false := beq_eq_false_iff_ne.2 (by omega)
        have e3 : ((op : Int) == 3) = false := beq_eq_false_iff_ne.2 (by omega)
        have e4 : ((op : Int) == 4) = false := beq_eq_false_iff_ne.2 (by omega)
        have e5 : ((op : Int) == 5) = false := beq_eq_false_iff_ne.2 (by omega)
        have e6 : ((op : Int) == 6) = true := beq_iff_eq.2 (by omega)
        clear h4
        go_enter Try.func35, Try.ntmps35
        go_wp2_with fail
        go_ret
        exact ⟨by rw [HV.out]; rfl, HB0.out⟩
      · -- the operator 7
        have e1 : ((op : Int) == 1) = false := beq_eq_false_iff_ne.2 (by omega)
        have e2 : ((op : Int) == 2) = false := beq_eq_false_iff_ne.2 (by omega)
        have e3 : ((op : Int) == 3) = false := beq_eq_false_iff_ne.2 (by omega)
        have e4 : ((op : Int) == 4) = false := beq_eq_false_iff_ne.2 (by omega)
        have e5 : ((op : Int) == 5) = false := beq_eq_false_iff_ne.2 (by omega)
        have e6 : ((op : Int) == 6) = false := beq_eq_false_iff_ne.2 (by omega)
        have e7 : ((op : Int) == 7) = true := beq_iff_eq.2 (by omega)
        clear h4
        go_enter Try.func35, Try.ntmps35
        go_wp2_with fail
        go_ret
        exact ⟨by rw [HV.out]; rfl, HB0.out⟩
      · -- the operator 8
        have e1 : ((op : Int) == 1) = false := beq_eq_false_iff_ne.2 (by omega)
        have e2 : ((op : Int) == 2) = false := beq_eq_false_iff_ne.2 (by omega)
        have e3 : ((op : Int) == 3) = false := beq_eq_false_iff_ne.2 (by omega)
        have e4 : ((op : Int) == 4) = false := beq_eq_false_iff_ne.2 (by omega)
        have e5 : ((op : Int) == 5) = false := beq_eq_false_iff_ne.2 (by omega)
        have e6 : ((op : Int) == 6) = false := beq_eq_false_iff_ne.2 (by omega)
        have e7 : ((op : Int) == 7) = false := beq_eq_false_iff_ne.2 (by omega)
        have e8 : ((op : Int) == 8) = true := beq_iff_eq.2 (by omega)
        clear h4
        go_enter Try.func35, Try.ntmps35
        go_wp2_with fail
        go_ret
        exact ⟨by rw [HV.out]; rfl, HB0.out⟩
  · have HV : Hid (wholeF (m + 1) (.node op n args) = false) := by show wholeF _ _ = _; rw [hv, decide_eq_false h0, Bool.false_and]
    have l0 : (n == 0) = false := beq_eq_false_iff_ne.2 h0
    clear hv h0
    rcases h4 with h4 | h4 | h4 | h4 | h4
    · -- the operator 4
      have e1 : ((op : Int) == 1) = false := beq_eq_false_iff_ne.2 (by omega)
      have e2 : ((op : Int) == 2) = false := beq_eq_false_iff_ne.2 (by omega)
      have e3 : ((op : Int) == 3) = false := beq_eq_false_iff_ne.2 (by omega)
      have e4 : ((op : Int) == 4) = true := beq_iff_eq.2 (by omega)
      clear h4
      go_enter Try.func35, Try.ntmps35
      go_wp2_with fail
      go_ret
      exact ⟨by rw [HV.out]; rfl, HB0.out⟩
    · -- the operator 5
      have e1 : ((op : Int) == 1) = false := beq_eq_false_iff_ne.2 (by omega)
      have e2 : ((op : Int) == 2) = false := beq_eq_false_iff_ne.2 (by omega)
      have e3 : ((op : Int) == 3) = false := beq_eq_false_iff_ne.2 (by omega)
      have e4 : ((op : Int) == 4) = false := beq_eq_false_iff_ne.2 (by omega)
      have e5 : ((op : Int) == 5) = true := beq_iff_eq.2 (by omega)
      clear h4
      go_enter Try.func35, Try.ntmps35
      go_wp2_with fail
      go_ret
      exact ⟨by rw [HV.out]; rfl, HB0.out⟩
    · -- the operator 6
      have e1 : ((op : Int) == 1) = false := beq_eq_false_iff_ne.2 (by omega)
      have e2 : ((op : Int) == 2) = false := beq_eq_false_iff_ne.2 (by omega)
      have e3 : ((op : Int) == 3) = false := beq_eq_false_iff_ne.2 (by omega)
      have e4 : ((op : Int) == 4) = false := beq_eq_false_iff_ne.2 (by omega)
      have e5 : ((op : Int) == 5) = false := beq_eq_false_iff_ne.2 (by omega)
      have e6 : ((op : Int) == 6) = true := beq_iff_eq.2 (by omega)
      clear h4
      go_enter Try.func35, Try.ntmps35
      go_wp2_with fail
      go_ret
      exact ⟨by rw [HV.out]; rfl, HB0.out⟩
    · -- the operator 7
      have e1 : ((op : Int) == 1) = false := beq_eq_false_iff_ne.2 (by omega)
      have e2 : ((op : Int) == 2) = false := beq_eq_false_iff_ne.2 (by omega)
      have e3 : ((op : Int) == 3) = false := beq_eq_false_iff_ne.2 (by omega)
      have e4 : ((op : Int) == 4) = false := beq_eq_false_iff_ne.2 (by omega)
      have e5 : ((op : Int) == 5) = false := beq_eq_false_iff_ne.2 (by omega)
      have e6 : ((op : Int) == 6) = false := beq_eq_false_iff_ne.2 (by omega)
      have e7 : ((op : Int) == 7) = true := beq_iff_eq.2 (by omega)
      clear h4
      go_enter Try.func35, Try.ntmps35
      go_wp2_with fail
      go_ret
      exact ⟨by rw [HV.out]; rfl, HB0.out⟩
    · -- the operator 8
      have e1 : ((op : Int) == 1) = false := beq_eq_false_iff_ne.2 (by omega)
      have e2 : ((op : Int) == 2) = false := beq_eq_false_iff_ne.2 (by omega)
      have e3 : ((op : Int) == 3) = false := beq_eq_false_iff_ne.2 (by omega)
      have e4 : ((op : Int) == 4) = false := beq_eq_false_iff_ne.2 (by omega)
      have e5 : ((op : Int) == 5) = false := beq_eq_false_iff_ne.2 (by omega)
      have e6 : ((op : Int) == 6) = false := beq_eq_false_iff_ne.2 (by omega)
      have e7 : ((op : Int) == 7) = false := beq_eq_false_iff_ne.2 (by omega)
      have e8 : ((op : Int) == 8) = true := beq_iff_eq.2 (by omega)
      clear h4
      go_enter Try.func35, Try.ntmps35
      go_wp2_with fail
      go_ret
      exact ⟨by rw [HV.out]; rfl, HB0.out⟩

set_option maxRecDepth 100000 in
theorem rwhole_any (m : Nat) (hm : m ≤ 100) : ∀ (d : Nat) (e : Ex) (v : Value) (lo hi : Nat) (w : World), At w lo hi d v e → hi ≤ w.heap.size →
    Calls Try.prog 35 #[v, .int .i64 m] w fun r w' => r = .returned (.bool (wholeF m e)) ∧ Below w.heap.size w w' := by
  induction m with
  | zero =>
    intro d e v lo hi w h hhi
    obtain ⟨d, rfl⟩ : ∃ q, d = q + 1 := by
      cases d with
      | zero => exact h.elim
      | succ q => exact ⟨q, rfl⟩
    obtain ⟨op, n, args⟩ := e
    obtain ⟨q1, q2, q3, q4, A, c, rfl, hk⟩ := h.open_
    have HB0 : Hid (Below w.heap.size w (w.alloc (.cells #[.int .u8 op, .int .i64 n, .slice A args.length c] 24))) := by show Below _ _ _; go_grown
    clear hk h
    go_enter Try.func35, Try.ntmps35
    go_wp2_with fail
    go_ret
    exact ⟨rfl, HB0.out⟩
  | succ m ih =>
    intro d e v lo hi w h hhi
    obtain ⟨d, rfl⟩ : ∃ q, d = q + 1 := by
      cases d with
      | zero => exact h.elim
      | succ q => exact ⟨q, rfl⟩
    obtain ⟨op, n, args⟩ := e
    obtain ⟨q1, q2, q3, q4, A, c, rfl, hk⟩ := h.open_
    by_cases h4 : op = 4 ∨ op = 5 ∨ op = 6 ∨ op = 7 ∨ op = 8
    · exact rwhole_ops m (by omega) op h4 d n args A c lo hi w hk hhi q4 (ih (by omega))
    have HB0 : Hid (Below w.heap.size w (w.alloc (.cells #[.int .u8 op, .int .i64 n, .slice A args.length c] 24))) := by show Below _ _ _; go_grown
    clear hk h ih
    by_cases h1 : op = 1
    · have HV : Hid (wholeF (m + 1) (.node op n args) = decide (args.length = 0)) := by show wholeF _ _ = _; rw [wholeF, if_pos h1]
      have e1 : ((op : Int) == 1) = true := beq_iff_eq.2 (by omega)
      clear h1 h4
      by_cases l0 : args.length = 0
      · have HW := Lib.hid (decide_eq_true l0)
        have l1 : ((args.length : Int) == 0) = true := beq_iff_eq.2 (by omega)
        clear l0
        go_enter Try.func35, Try.ntmps35
        go_wp2_with fail
        go_ret
        exact ⟨by rw [HV.out, HW.out]; rfl, HB0.out⟩
      · have HW := Lib.hid (decide_eq_false l0)
        have l1 : ((args.length : Int) == 0) = false := beq_eq_false_iff_ne.2 (by omega)
        clear l0
        go_enter Try.func35, Try.ntmps35
        go_wp2_with fail
        go_ret
        exact ⟨by rw [HV.out, HW.out]; rfl, HB0.out⟩
    by_cases h2 : op = 2
    · have HV : Hid (wholeF (m + 1) (.node op n args) = decide (args.length = 0 ∧ 0 ≤ n ∧ n < 8)) := by show wholeF _ _ = _; rw [wholeF, if_neg h1, if_pos h2]
      have e1 : ((op : Int) == 1) = false := beq_eq_false_iff_ne.2 (by omega)
      have e2 : ((op : Int) == 2) = true := beq_iff_eq.2 (by omega)
      clear h1 h2 h4
      by_cases l0 : args.length = 0
      · have l1 : ((args.length : Int) == 0) = true := beq_iff_eq.2 (by omega)
        by_cases l2 : 0 ≤ n
        · by_cases l3 : n < 8
          · have HW := Lib.hid (decide_eq_true (show args.length = 0 ∧ 0 ≤ n ∧ n < 8 from ⟨l0, l2, l3⟩))
            clear l0
            go_enter Try.func35, Try.ntmps35
            go_wp2_with fail
            go_ret
            exact ⟨by rw [HV.out, HW.out]; rfl, HB0.out⟩
          · have HW := Lib.hid (decide_eq_false (show ¬ (args.length = 0 ∧ 0 ≤ n ∧ n < 8) from fun h => l3 h.2.2))
            have l4 : decide (n < 8) = false := decide_eq_false l3
            clear l0 l3
            go_enter Try.func35, Try.ntmps35
            go_wp2_with fail
            go_ret
            exact ⟨by rw [HV.out, HW.out]; rfl, HB0.out⟩
        · have HW := Lib.hid (decide_eq_false (show ¬ (args.length = 0 ∧ 0 ≤ n ∧ n < 8) from fun h => l2 h.2.1))
          have l4 : decide (0 ≤ n) = false := decide_eq_false l2
          clear l0 l2
          go_enter Try.func35, Try.ntmps35
          go_wp2_with fail
          go_ret
          exact ⟨by rw [HV.out, HW.out]; rfl, HB0.out⟩
      · have HW := Lib.hid (decide_eq_false (show ¬ (args.length = 0 ∧ 0 ≤ n ∧ n < 8) from fun h => l0 h.1))
        have l1 : ((args.length : Int) == 0) = false := beq_eq_false_iff_ne.2 (by omega)
        clear l0
        go_enter Try.func35, Try.ntmps35
        go_wp2_with fail
        go_ret
        exact ⟨by rw [HV.out, HW.out]; rfl, HB0.out⟩
    by_cases h3 : op = 3
    · have HV : Hid (wholeF (m + 1) (.node op n args) = decide (args.length = 0 ∧ 0 ≤ n ∧ n < 6)) := by show wholeF _ _ = _; rw [wholeF, if_neg h1, if_neg h2, if_pos h3]
      have e1 : ((op : Int) == 1) = false := beq_eq_false_iff_ne.2 (by omega)
      have e2 : ((op : Int) == 2) = false := beq_eq_false_iff_ne.2 (by omega)
      have e3 : ((op : Int) == 3) = true := beq_iff_eq.2 (by omega)
      clear h1 h2 h3 h4
      by_cases l0 : args.length = 0
      · have l1 : ((args.length : Int) == 0) = true := beq_iff_eq.2 (by omega)
        by_cases l2 : 0 ≤ n
        · by_cases l3 : n < 6
          · have HW := Lib.hid (decide_eq_true (show args.length = 0 ∧ 0 ≤ n ∧ n < 6 from ⟨l0, l2, l3⟩))
            clear l0
            go_enter Try.func35, Try.ntmps35
            go_wp2_with fail
            go_ret
            exact ⟨by rw [HV.out, HW.out]; rfl, HB0.out⟩
          · have HW := Lib.hid (decide_eq_false (show ¬ (args.length = 0 ∧ 0 ≤ n ∧ n < 6) from fun h => l3 h.2.2))
            have l4 : decide (n < 6) = false := decide_eq_false l3
            clear l0 l3
            go_enter Try.func35, Try.ntmps35
            go_wp2_with fail
            go_ret
            exact ⟨by rw [HV.out, HW.out]; rfl, HB0.out⟩
        · have HW := Lib.hid (decide_eq_false (show ¬ (args.length = 0 ∧ 0 ≤ n ∧ n < 6) from fun h => l2 h.2.1))
          have l4 : decide (0 ≤ n) = false := decide_eq_false l2
          clear l0 l2
          go_enter Try.func35, Try.ntmps35
          go_wp2_with fail
          go_ret
          exact ⟨by rw [HV.out, HW.out]; rfl, HB0.out⟩
      · have HW := Lib.hid (decide_eq_false (show ¬ (args.length = 0 ∧ 0 ≤ n ∧ n < 6) from fun h => l0 h.1))
        have l1 : ((args.length : Int) == 0) = false := beq_eq_false_iff_ne.2 (by omega)
        clear l0
        go_enter Try.func35, Try.ntmps35
        go_wp2_with fail
        go_ret
        exact ⟨by rw [HV.out, HW.out]; rfl, HB0.out⟩
    have HV : Hid (wholeF (m + 1) (.node op n args) = false) := by show wholeF _ _ = _; rw [wholeF, if_neg h1, if_neg h2, if_neg h3, if_neg (by omega)]
    have e1 : ((op : Int) == 1) = false := beq_eq_false_iff_ne.2 (by omega)
    have e2 : ((op : Int) == 2) = false := beq_eq_false_iff_ne.2 (by omega)
    have e3 : ((op : Int) == 3) = false := beq_eq_false_iff_ne.2 (by omega)
    have e4 : ((op : Int) == 4) = false := beq_eq_false_iff_ne.2 (by omega)
    have e5 : ((op : Int) == 5) = false := beq_eq_false_iff_ne.2 (by omega)
    have e6 : ((op : Int) == 6) = false := beq_eq_false_iff_ne.2 (by omega)
    have e7 : ((op : Int) == 7) = false := beq_eq_false_iff_ne.2 (by omega)
    have e8 : ((op : Int) == 8) = false := beq_eq_false_iff_ne.2 (by omega)
    clear h1 h2 h3 h4
    go_enter Try.func35, Try.ntmps35
    go_wp2_with fail
    go_ret
    exact ⟨by rw [HV.out]; rfl, HB0.out⟩
end Go.Proofs.Ytlalknapmnadpaa
