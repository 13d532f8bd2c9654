/-
  ExprParts (P4.4): parts of what may be may be; in a later transaction it may be, too; Count is that of the parts, and one more: the statement holds for every input. Conditions: none beyond the statement's own (trees of at most 400 parts).
-/
import Derived.Test.YtlalknapmnadpaaEo
import Derived.Test.YtlalknapmnadpaaEl
import Derived.Test.YtlalknapmnadpaaEk
import Derived.Test.YtlalknapmnadpaaDy
import Derived.Test.YtlalknapmnadpaaEv
import Derived.Test.YtlalknapmnadpaaLift
import Derived.Carry
namespace Go.Proofs.Ytlalknapmnadpaa
open Go.ChangeShapes Go.WideShapes Go.ChangeAt Go.RowKit Go.ChangeMaps
set_option linter.unusedVariables false
theorem i64_of {n : Int} (h : (Lit.int .i64 n).wf = true) : -9223372036854775808 ≤ n ∧ n < 9223372036854775808 := by
  have : -9223372036854775808 ≤ n ∧ n ≤ 9223372036854775807 := by simpa [Lit.wf, IntKind.min, IntKind.max, IntKind.signed, IntKind.bits] using h
  omega
theorem whole_up (m : Nat) : ∀ (e : Ex), wholeF m e = true → wholeF (m + 1) e = true := by
  induction m with
  | zero => intro e h; cases h
  | succ m ih =>
    intro e h
    obtain ⟨op, n, args⟩ := e
    obtain ⟨o1, o8⟩ := whole_op h
    by_cases h4 : 4 ≤ op
    · obtain ⟨rfl, a, b, rfl, w1, w2⟩ := whole_two h4 o8 h
      rw [wholeF, if_neg (by omega), if_neg (by omega), if_neg (by omega), if_pos ⟨h4, o8⟩]
      simp [both, ih a w1, ih b w2]
    · rcases (by omega : op = 1 ∨ op = 2 ∨ op = 3) with rfl | rfl | rfl
      · rw [wholeF, if_pos rfl] at h ⊢; exact h
      · rw [wholeF, if_neg (by omega), if_pos rfl] at h ⊢; exact h
      · rw [wholeF, if_neg (by omega), if_neg (by omega), if_pos rfl] at h ⊢; exact h
theorem whole_part {m op : Nat} {n : Int} {args : List Ex} (h : wholeF (m + 1) (.node op n args) = true) : ∀ x ∈ args, wholeF m x = true := by
  obtain ⟨o1, o8⟩ := whole_op h
  intro x hx
  by_cases h4 : 4 ≤ op
  · obtain ⟨rfl, a, b, rfl, w1, w2⟩ := whole_two h4 o8 h
    simp at hx
    rcases hx with rfl | rfl
    · exact w1
    · exact w2
  · have hl : args.length = 0 := by
      rcases (by omega : op = 1 ∨ op = 2 ∨ op = 3) with rfl | rfl | rfl
      · rw [wholeF, if_pos rfl] at h; exact of_decide_eq_true h
      · rw [wholeF, if_neg (by omega), if_pos rfl] at h; exact (of_decide_eq_true h).1
      · rw [wholeF, if_neg (by omega), if_neg (by omega), if_pos rfl] at h; exact (of_decide_eq_true h).1
    rw [List.eq_nil_of_length_eq_zero hl] at hx
    cases hx
theorem below_part {d op : Nat} {n m : Int} {args : List Ex} (h : belowF (d + 1) (.node op n args) m = true) : ∀ x ∈ args, belowF d x m = true := by
  rw [belowF, Bool.and_eq_true] at h
  intro x hx
  exact List.all_eq_true.1 h.2 x hx
theorem below_up (d : Nat) {m m' : Int} (hm : m ≤ m') : ∀ (e : Ex), belowF d e m = true → belowF d e m' = true := by
  induction d with
  | zero => intro e _; rfl
  | succ d ih =>
    intro e h
    obtain ⟨op, n, args⟩ := e
    rw [belowF, Bool.and_eq_true] at h ⊢
    refine ⟨?_, List.all_eq_true.2 fun x hx => ih x (List.all_eq_true.1 h.2 x hx)⟩
    have h1 := h.1
    by_cases ho : op = 3
    · simp [ho] at h1 ⊢; omega
    · simp [ho]
def mayF (d : Nat) (e : Ex) (m : Int) : Bool := wholeF 6 e && belowF d e m

set_option maxRecDepth 100000 in
theorem parts_large (v : Value) (d : Nat) (e : Ex) (n more : Int) (w : World) (h : At w 0 w.heap.size d v e) (hl : muchF d e 0 = none) :
    Calls Try.prog 7 #[v, .int .i64 n, .int .i64 more] w fun e w' => e = .returned (.bool true) ∧ Below w.heap.size w w' := by
  obtain ⟨x, y, z, rfl⟩ := h.boxed
  have b0 := boxed_below w x y z
  have HL := Lib.hid (large_any d e _ 0 w.heap.size _ (h.below b0 (Nat.le_refl _)) b0.size)
  rw [hl] at HL
  have HB0 := Lib.hid b0
  clear h hl b0
  go_enter Try.func7, Try.ntmps7
  go_wp2_with fail
  refine HL.out.mono ?_
  rintro r w1 ⟨rfl, b1⟩
  simp only [Option.isNone_none]
  go_wp2_with fail
  refine (awake_any _).mono ?_
  rintro r w2 ⟨rfl, b2⟩
  go_wp2_with fail
  go_ret
  exact ⟨rfl, HB0.out.trans ((b1.trans (b2.mono b1.size)).mono HB0.out.size)⟩

set_option maxRecDepth 100000 in
set_option maxHeartbeats 2000000 in
theorem parts_small (d op : Nat) (n0 : Int) (args : List Ex) (A : Option Addr) (c : Nat) (n more : Int) (hn0 : -9223372036854775808 ≤ n) (hn1 : n < 9223372036854775808) (hm0 : -9223372036854775808 ≤ more) (hm1 : more < 9223372036854775808) (w : World)
    (h : At w 0 w.heap.size (d + 1) (.agg #[.int .u8 op, .int .i64 n0, .slice A args.length c]) (.node op n0 args)) (k0 : Nat) (hl : muchF (d + 1) (.node op n0 args) 0 = some k0) :
    Calls Try.prog 7 #[.agg #[.int .u8 op, .int .i64 n0, .slice A args.length c], .int .i64 n, .int .i64 more] w fun e w' => e = .returned (.bool true) ∧ Below w.heap.size w w' := by
  obtain ⟨hcnt, h400⟩ := muchF_cnt _ _ _ _ hl
  have hk : Kids w 0 w.heap.size d A args := by
    obtain ⟨q1, q2, q3, q4, A', c', hv, hk⟩ := h.open_
    cases hv
    exact hk
  have hc : cnt (d + 1) (.node op n0 args) = 1 + (args.map (cnt d)).sum := rfl
  have b0 := boxed_below w (.int .u8 op) (.int .i64 n0) (.slice A args.length c)
  have z0 : w.heap.size < (w.alloc (.cells #[.int .u8 op, .int .i64 n0, .slice A args.length c] 24)).heap.size := by simp
  have hbx := Boxed.new w (.int .u8 op) (.int .i64 n0) (.slice A args.length c)
  have hA := h.below b0 (Nat.le_refl _)
  have HK := Lib.hid (hk.below b0 (Nat.le_refl _))
  have HL := Lib.hid (large_any (d + 1) _ _ 0 w.heap.size _ hA b0.size)
  rw [hl] at HL
  have HB0 := Lib.hid b0
  have HZ0 := Lib.hid z0
  have HBX := Lib.hid hbx
  have HA := Lib.hid hA
  have HW0 := Lib.hid b0.size
  have hlen : args.length ≤ 400 := by
    have := len_sum args hk.pos
    omega
  have hsum : 1 + (args.map (cnt d)).sum ≤ 400 := by omega
  have HM1 : Hid (mayF (d + 1) (.node op n0 args) n = true → ∀ x ∈ args, mayF d x n = true) := by
    intro hm x hx
    rw [mayF, Bool.and_eq_true] at hm ⊢
    exact ⟨whole_up 5 x (whole_part hm.1 x hx), below_part hm.2 x hx⟩
  have HM2 : Hid (mayF (d + 1) (.node op n0 args) n = true → wholeF 6 (.node op n0 args) = true) := by
    intro hm
    rw [mayF, Bool.and_eq_true] at hm
    exact hm.1
  have HM3 : Hid (mayF (d + 1) (.node op n0 args) n = true → n ≤ more → mayF (d + 1) (.node op n0 args) more = true) := by
    intro hm hle
    rw [mayF, Bool.and_eq_true] at hm ⊢
    exact ⟨hm.1, below_up _ hle _ hm.2⟩
  have HC := Lib.hid hc
  clear h hl hk b0 z0 hbx hA hcnt h400 hc
  go_enter Try.func7, Try.ntmps7
  go_wp2_with fail
  refine HL.out.mono ?_
  rintro r w1 ⟨rfl, b1⟩
  simp only [Option.isNone_some]
  go_wp2_with fail
  refine (awake_any _).mono ?_
  rintro r w2 ⟨rfl, b2⟩
  have b3 := b1.trans (b2.mono b1.size)
  have b0 := HB0.out
  have z0 := HZ0.out
  obtain ⟨W, hW⟩ : ∃ W, W = w.alloc (.cells #[.int .u8 op, .int .i64 n0, .slice A args.length c] 24) := ⟨_, rfl⟩
  have hw0 := HW0.out
  rw [← hW] at b0 z0 b3 HBX HA HK hw0
  clear hW HB0 HZ0 HL b1 b2 HW0
  -- what each call tells, in whatever world behind
  have KC : Hid (∀ wx, Below W.heap.size W wx → Calls Try.prog 19 #[.agg #[.int .u8 op, .int .i64 n0, .slice A args.length c]] wx fun r w' => r = .returned (.int .i64 (1 + (args.map (cnt d)).sum : Nat)) ∧ Below wx.heap.size wx w') := fun wx hx => by
    have := count_any (d + 1) _ _ 0 w.heap.size wx (HA.out.below hx hw0) (Nat.le_trans hw0 hx.size) (by rw [HC.out]; omega)
    rw [HC.out] at this
    exact this
  have KM : Hid (∀ (m : Int), -9223372036854775808 ≤ m → m < 9223372036854775808 → ∀ wx, Below W.heap.size W wx → Calls Try.prog 17 #[.agg #[.int .u8 op, .int .i64 n0, .slice A args.length c], .int .i64 m] wx fun r w' => r = .returned (.bool (mayF (d + 1) (.node op n0 args) m)) ∧ Below wx.heap.size wx w') := fun m h0 h1 wx hx =>
    may_any (d + 1) _ _ 0 w.heap.size m h0 h1 wx (HA.out.below hx hw0) (Nat.le_trans hw0 hx.size)
  have KW : Hid (∀ wx, Below W.heap.size W wx → Calls Try.prog 15 #[.agg #[.int .u8 op, .int .i64 n0, .slice A args.length c]] wx fun r w' => r = .returned (.bool (wholeF 6 (.node op n0 args))) ∧ Below wx.heap.size wx w') := fun wx hx =>
    Whole_any (d + 1) _ _ 0 w.heap.size wx (HA.out.below hx hw0) (Nat.le_trans hw0 hx.size)
  obtain ⟨mE, hmE⟩ : ∃ mE, mE = mayF (d + 1) (.node op n0 args) n := ⟨_, rfl⟩
  have KN := Lib.hid (KM.out n hn0 hn1)
  rw [← hmE] at KN HM1 HM2 HM3
  clear hmE HA HC
  have f0 := (HBX.out.below b3 z0).c0
  have f1 := (HBX.out.below b3 z0).c1
  have f2 := (HBX.out.below b3 z0).c2
  go_wp2_with fail
  clear f0 f1 f2
  go_loopw [7, 8] (fun a i wr => ∃ k : Nat, k ≤ args.length ∧ i = .int .i64 k ∧ a = .int .i64 (1 + ((args.take k).map (cnt d)).sum : Nat) ∧ Below W.heap.size W wr) (fun _ i _ => args.length - (intOf i).toNat)
  case atStart => exact ⟨0, by omega, rfl, rfl, b3⟩
  case round =>
    obtain ⟨k, hk, rfl, rfl, hb⟩ := hrel
    have bx := HBX.out.below hb z0
    have f0 := bx.c0
    have f1 := bx.c1
    have f2 := bx.c2
    clear bx
    by_cases hlt : k < args.length
    · obtain ⟨a, x, y, z, rfl, m1, m2, g0, g1, g2, hA⟩ := HK.out.below hb hw0 k hlt
      have s1 := sum_take (cnt d) args k hlt
      have s2 := sum_le (cnt d) args (k + 1)
      have hs := hb.size
      have HI := Lib.hid (count_any d args[k] _ _ _ wr hA (by omega) (by omega))
      have HY : Hid (∀ wx, Below wr.heap.size wr wx → Calls Try.prog 17 #[.agg #[x, y, z], .int .i64 n] wx fun r w' => r = .returned (.bool (mayF d args[k] n)) ∧ Below wx.heap.size wx w') := fun wx hx =>
        may_any d args[k] _ 0 w.heap.size n hn0 hn1 wx (hA.below hx (by omega)) (by have := hx.size; omega)
      have HMk : Hid (mE = true → mayF d args[k] n = true) := fun hm => HM1.out hm _ (List.getElem_mem _)
      have n1 : (a.add (k * 3)).block < wr.heap.size := by rw [ad_block]; omega
      have HT : Hid (Three wr (a.add (k * 3)) x y z) := ⟨g0, g1, g2⟩
      obtain ⟨j, hj⟩ : ∃ j, j = cnt d args[k] := ⟨_, rfl⟩
      obtain ⟨u, hu⟩ : ∃ u, u = ((args.take k).map (cnt d)).sum := ⟨_, rfl⟩
      obtain ⟨mk, hmk⟩ : ∃ mk, mk = mayF d args[k] n := ⟨_, rfl⟩
      rw [← hj] at s1 HI
      rw [← hu] at s1 ⊢
      rw [← hmk] at HY HMk
      have k1 : u + j ≤ 400 := by omega
      have HS := Lib.hid s1
      clear s1 s2 hj hu hA hmk hs
      go_wp2_with fail
      refine HI.out.mono ?_
      rintro r w5 ⟨rfl, b5⟩
      have c5 := hb.trans (b5.mono hb.size)
      have bx := HBX.out.below c5 z0
      have f0' := bx.c0
      have f1' := bx.c1
      have f2' := bx.c2
      have t5 := HT.out.below b5 n1
      have g0' := t5.c0
      have g1' := t5.c1
      have g2' := t5.c2
      clear bx t5 f0 f1 f2 g0 g1 g2
      go_wp2_with fail
      refine (KN.out w5 c5).mono ?_
      rintro r w6 ⟨rfl, b6⟩
      have c6 := c5.trans (b6.mono c5.size)
      cases mE with
      | false =>
        clear f0' f1' f2' g0' g1' g2'
        go_wp2_with fail
        go_roundw
        case rel => exact ⟨k + 1, by omega, by go_num, by rw [HS.out]; go_num, c6⟩
        case measure => simp [intOf]; omega
      | true =>
        have hm := HMk.out rfl
        subst hm
        have bx := HBX.out.below c6 z0
        have h2 := bx.c2
        have d6 := b5.trans (b6.mono b5.size)
        have t6 := HT.out.below d6 n1
        have g0 := t6.c0
        have g1 := t6.c1
        have g2 := t6.c2
        clear bx t6 f0' f1' f2' g0' g1' g2'
        go_wp2_with fail
        refine (HY.out w6 d6).mono ?_
        rintro r w7 ⟨rfl, b7⟩
        go_wp2_with fail
        go_roundw
        case rel => exact ⟨k + 1, by omega, by go_num, by rw [HS.out]; go_num, c6.trans (b7.mono c6.size)⟩
        case measure => simp [intOf]; omega
    · obtain rfl : k = args.length := by omega
      rw [List.take_length]
      have e0 : ((((1 + (args.map (cnt d)).sum : Nat) : Int)) != ((1 + (args.map (cnt d)).sum : Nat) : Int)) = false := by simp
      obtain ⟨u, hu⟩ : ∃ u, u = 1 + (args.map (cnt d)).sum := ⟨_, rfl⟩
      rw [← hu] at e0 KC hsum ⊢
      clear hu
      go_wp2_with fail
      refine (KC.out wr hb).mono ?_
      rintro r w5 ⟨rfl, b5⟩
      have c5 := hb.trans (b5.mono hb.size)
      have bx := HBX.out.below c5 z0
      have f0' := bx.c0
      have f1' := bx.c1
      have f2' := bx.c2
      clear bx f0 f1 f2
      go_wp2_with fail
      refine (KN.out w5 c5).mono ?_
      rintro r w6 ⟨rfl, b6⟩
      have c6 := c5.trans (b6.mono c5.size)
      have bx := HBX.out.below c6 z0
      have f0 := bx.c0
      have f1 := bx.c1
      have f2 := bx.c2
      clear bx f0' f1' f2'
      cases mE with
      | false =>
        go_wp2_with fail
        refine (KN.out w6 c6).mono ?_
        rintro r w7 ⟨rfl, b7⟩
        have c7 := c6.trans (b7.mono c6.size)
        go_wp2_with fail
        go_ret
        exact ⟨rfl, b0.trans (c7.mono b0.size)⟩
      | true =>
        have hwh := HM2.out rfl
        have H3 := Lib.hid (HM3.out rfl)
        clear HM1 HM2 HM3
        obtain ⟨we, hwe⟩ : ∃ we, we = wholeF 6 (.node op n0 args) := ⟨_, rfl⟩
        rw [← hwe] at KW hwh
        subst hwh
        clear hwe
        go_wp2_with fail
        refine (KW.out w6 c6).mono ?_
        rintro r w7 ⟨rfl, b7⟩
        have c7 := c6.trans (b7.mono c6.size)
        have bx := HBX.out.below c7 z0
        have g0 := bx.c0
        have g1 := bx.c1
        have g2 := bx.c2
        clear bx f0 f1 f2
        go_wp2_with fail
        refine (KN.out w7 c7).mono ?_
        rintro r w8 ⟨rfl, b8⟩
        have c8 := c7.trans (b8.mono c7.size)
        have bx := HBX.out.below c8 z0
        have f0 := bx.c0
        have f1 := bx.c1
        have f2 := bx.c2
        clear bx g0 g1 g2
        by_cases hmn : more < n
        · have hd : decide (more < n) = true := decide_eq_true hmn
          clear hmn
          go_wp2_with fail
          go_ret
          exact ⟨rfl, b0.trans (c8.mono b0.size)⟩
        · have hd : decide (more < n) = false := decide_eq_false hmn
          have hmm := H3.out (by omega)
          have KK := Lib.hid (KM.out more hm0 hm1)
          rw [hmm] at KK
          clear hmn hmm
          go_wp2_with fail
          refine (KK.out w8 c8).mono ?_
          rintro r w9 ⟨rfl, b9⟩
          go_wp2_with fail
          go_ret
          exact ⟨rfl, b0.trans ((c8.trans (b9.mono c8.size)).mono b0.size)⟩

theorem ExprParts_walk (v : Value) (d : Nat) (e : Ex) (n more : Int) (w : World) (h : At w 0 w.heap.size d v e) (w1 : (Lit.int .i64 n).wf = true) (w2 : (Lit.int .i64 more).wf = true) :
    Calls Try.prog 7 #[v, .int .i64 n, .int .i64 more] w fun e w' => e = .returned (.bool true) ∧ Below w.heap.size w w' := by
  obtain ⟨hn0, hn1⟩ := i64_of w1
  obtain ⟨hm0, hm1⟩ := i64_of w2
  cases hl : muchF d e 0 with
  | none => exact parts_large v d e n more w h hl
  | some k0 =>
    obtain ⟨d, rfl⟩ : ∃ q, d = q + 1 := by
      cases d with
      | zero => exact h.elim
      | succ q => exact ⟨q, rfl⟩
    obtain ⟨op, n0, args⟩ := e
    have hh := h
    obtain ⟨q1, q2, q3, q4, A, c, rfl, hk⟩ := h.open_
    exact parts_small d op n0 args A c n more hn0 hn1 hm0 hm1 w hh k0 hl

theorem ExprParts_laid : laidOutB Try.prog = true := by kernel_rfl
set_option maxRecDepth 100000 in
theorem ExprParts_lifted (os : Os) (started : os.Started) (H : Type) (enc : TypeId × Value → H) :
    ReturnsInHanded {} Try.checked os 7 .any (Rows.exprPartsSpec.pre6 enc Try.prog Try.f7 Rows.exprPartsRow.domain false) (Rows.exprPartsSpec.post enc Try.prog Try.f7 false true false false) := by
  refine returnsInHanded_of_change (C := Try.checked) lift_own started (by kernel_rfl) Try.func7
    (ChangeSpec.witness6 (enc := enc) (C := Try.checked) false ⟨#[], #[.agg #[.int .u8 0, .int .i64 0, .slice none 0 0], .int .i64 0, .int .i64 0], []⟩ 8 (by kernel_rfl) (by kernel_rfl) (by kernel_rfl) (by kernel_rfl)) ?_
  intro W base args ds gs before hval0 hW hcnd _
  have hval : ∀ (j : Nat) t v, Try.f7.params[j]? = some t → args[j]? = some v → Value.okWide Try.prog W .any base t v := hval0
  have hW' := hW
  obtain ⟨p, q, hA0, hV, rfl, hfz, hnd⟩ := hW
  have hA : DataW.TrodAll enc Try.prog W 0 (fun _ => true) true Try.f7.params.toList args.toList ds p := hA0
  rw [Try.params7] at hA hval
  obtain ⟨v0, vs0, d0, ds0, p0, q0, hargs, rfl, rfl, h0, r0⟩ := trodAll_cons hA
  obtain ⟨v1, vs1, d1, ds1, p1, q1, rfl, rfl, rfl, h1, r1⟩ := trodAll_cons r0
  obtain ⟨v2, vs2, d2, ds2, p2, q2, rfl, rfl, rfl, h2, r2⟩ := trodAll_cons r1
  obtain ⟨rfl, rfl, rfl⟩ := trodAll_nil r2
  obtain rfl : args = #[v0, v1, v2] := by cases args; simp_all
  obtain ⟨rfl, rfl⟩ := trodVars_none hV
  obtain ⟨n0, e0, hE0⟩ := open_expr (hval 0 24 v0 rfl rfl) h0
  obtain ⟨a1, rfl, rfl, rfl, w1⟩ := open_int Try.underlying3 (hval 1 3 v1 rfl rfl) h1
  obtain ⟨a2, rfl, rfl, rfl, w2⟩ := open_int Try.underlying3 (hval 2 3 v2 rfl rfl) h2
  clear hA0 hval0
  simp only [List.append_nil] at hW'
  refine (ExprParts_walk v0 n0 e0 a1 a2 W hE0 w1 w2).mono fun e W' ⟨he, hg⟩ => ?_
  subst he
  exact ⟨_, rfl, lift_post (pv := []) hW' (fun _ _ _ => (trodAll_cons_mk (shut_bool Try.underlying4 _) trodAll_mk0)) (fun sp hsp => (trodAll_cons_mk (WideElems.Trod_stays ExprParts_laid (by kernel_rfl) (of_decide_eq_true (by kernel_rfl)) h0 (fun x hx => hg.same (hW'.lt x (by simp [hx]))) (fun x hx => hsp x (by simp [hx]))) (trodAll_cons_mk (shut_int Try.underlying3 w1) (trodAll_cons_mk (shut_int Try.underlying3 w2) trodAll_mk0)))) (fun _ _ => rfl) (by simp)
    hg (ok_one (by kernel_rfl) rfl (okWide_bool_mk Try.underlying4 _))⟩

/-- THE STATEMENT of ExprParts: for every input the call returns true, and each argument reads behind it as before. -/
theorem ExprParts_holds : Rows.ExprPartsSaid :=
  OpenClaim.holds_of_wide 7 Try.f7 rfl rfl rfl rfl rfl rfl rfl ⟨rfl, rfl, rfl, rfl, rfl⟩ rfl rfl rfl rfl rfl (by kernel_rfl) Try.func7 (by kernel_rfl)
    (of_decide_eq_true (by kernel_rfl)) (by unfold Func.isWrapper; first | (rw [if_pos (by decide +kernel)]; kernel_rfl) | (rw [if_neg (by decide +kernel)]; exact ⟨rfl, rfl⟩))
    (fun os started H enc _ => ExprParts_lifted os started H enc)
end Go.Proofs.Ytlalknapmnadpaa
