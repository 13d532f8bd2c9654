/-
  ExprTold (P4.3): what may be in the transaction n comes to a value, over MaxLocals locals and n values that were returned; the same each time: the statement holds for every input. Conditions: none beyond the statement's own.
-/
import Derived.Test.YtlalknapmnadpaaEa
import Derived.Test.YtlalknapmnadpaaEl
import Derived.Test.YtlalknapmnadpaaEk
import Derived.Test.YtlalknapmnadpaaDp
import Derived.Test.YtlalknapmnadpaaLift
import Derived.Carry
namespace Go.Proofs.Ytlalknapmnadpaa
open Go.ChangeShapes Go.WideShapes Go.ChangeAt Go.RowKit Go.ChangeMaps
set_option linter.unusedVariables false
theorem come_ok {w : World} {lo hi : Nat} (xs ys : List Int) (hx : xs.length = 8) (d : Nat) : ∀ (m : Nat) (v : Value) (e : Ex), At w lo hi d v e → wholeF m e = true → belowF d e ys.length = true → (comeF m e xs ys).2 = 0 := by
  induction d with
  | zero => intro m v e h; exact h.elim
  | succ d ih =>
    intro m v e h hw hb
    obtain ⟨op, n, args⟩ := e
    cases m with
    | zero => cases hw
    | succ m =>
      obtain ⟨q1, q2, q3, q4, A, c, rfl, hk⟩ := h.open_
      obtain ⟨o1, o8⟩ := whole_op hw
      by_cases h1 : op = 1
      · rw [comeF, if_pos h1]
      · by_cases h2 : op = 2
        · have hh := hw
          rw [wholeF, if_neg h1, if_pos h2] at hh
          have := of_decide_eq_true hh
          rw [comeF, if_neg h1, if_pos h2, if_neg (by omega)]
        · by_cases h3 : op = 3
          · rw [belowF, Bool.and_eq_true] at hb
            have hb1 := hb.1
            rw [decide_eq_true h3, Bool.true_and, Bool.not_eq_true'] at hb1
            have := of_decide_eq_false hb1
            rw [comeF, if_neg h1, if_neg h2, if_pos h3, if_neg (by omega)]
          · obtain ⟨rfl, x1, x2, rfl, w1, w2⟩ := whole_two (by omega) o8 hw
            rw [belowF, Bool.and_eq_true] at hb
            have hb2 := List.all_eq_true.1 hb.2
            obtain ⟨a, x, y, z, x', y', z', rfl, m1, m2, t1, t2, hA, hA'⟩ := hk.two
            have e1 := ih m _ _ hA w1 (hb2 x1 (by simp))
            have e2 := ih m _ _ hA' w2 (hb2 x2 (by simp))
            rw [comeF, if_neg h1, if_neg h2, if_neg h3, come2, if_neg (by omega), if_neg (by omega)]
theorem eval_ok {w : World} {lo hi d : Nat} {v : Value} {e : Ex} (xs ys : List Int) (hx : xs.length = 8) (h : At w lo hi d v e) (hw : wholeF 6 e = true) (hb : belowF d e ys.length = true) : ∃ u, evalF e xs ys = (u, 0) := by
  rw [evalF, hw, if_pos rfl]
  have := come_ok xs ys hx d 6 v e h hw hb
  exact ⟨(comeF 6 e xs ys).1, by rw [← this]⟩

/-- What a region keeps: the cells of a struct, and all that was there. -/
theorem sB {W wp w' : World} {g : Nat} {x y z : Value} (hg : g < W.heap.size) (h : wp.cell? ⟨g, 0, none⟩ = some x ∧ wp.cell? ⟨g, 1, none⟩ = some y ∧ wp.cell? ⟨g, 2, none⟩ = some z ∧ Below W.heap.size W wp) (b : Below wp.heap.size wp w') :
    w'.cell? ⟨g, 0, none⟩ = some x ∧ w'.cell? ⟨g, 1, none⟩ = some y ∧ w'.cell? ⟨g, 2, none⟩ = some z ∧ Below W.heap.size W w' := by
  obtain ⟨h0, h1, h2, hb⟩ := h
  have hz := hb.size
  exact ⟨(b.cell (p := ⟨g, 0, none⟩) (by show g < _; omega)).trans h0, (b.cell (p := ⟨g, 1, none⟩) (by show g < _; omega)).trans h1, (b.cell (p := ⟨g, 2, none⟩) (by show g < _; omega)).trans h2, hb.trans (b.mono hz)⟩
theorem sBb {p q r : Prop} {W w' : World} (h : p ∧ q ∧ r ∧ Below W.heap.size W w') : Below W.heap.size W w' := h.2.2.2
theorem b_drew (w : World) : Below w.heap.size w w.drew := (Below.refl _ _).drew
theorem b_alloc (w : World) (o : Obj) : Below w.heap.size w (w.alloc o) := (Below.refl _ _).alloc (Nat.le_refl _) _
theorem c1b {w5 w6 : World} {o : Obj} (b : Below (w5.alloc o).heap.size (w5.alloc o) w6) : Below w5.heap.size w5 w6 := (b_alloc w5 o).trans (b.mono (b_alloc w5 o).size)
theorem c2b {w5 w6 : World} {o o' : Obj} (b : Below ((w5.alloc o).alloc o').heap.size ((w5.alloc o).alloc o') w6) : Below w5.heap.size w5 w6 := c1b (c1b b)
set_option maxRecDepth 100000 in
theorem told_large (v : Value) (d : Nat) (e : Ex) (x0 x1 x2 x3 x4 x5 x6 x7 : Int) (A : Option Addr) (c : Nat) (L : List Int) (w : World) (h : At w 0 w.heap.size d v e) (hl : muchF d e 0 = none) :
    Calls Try.prog 6 #[v, .agg #[.int .i64 x0, .int .i64 x1, .int .i64 x2, .int .i64 x3, .int .i64 x4, .int .i64 x5, .int .i64 x6, .int .i64 x7], .slice A L.length c] w fun e w' => e = .returned (.bool true) ∧ Below w.heap.size w w' := by
  obtain ⟨x, y, z, rfl⟩ := h.boxed
  have b0 : Below w.heap.size w ((w.alloc (.cells #[x, y, z] 24)).alloc (.cells #[.int .i64 x0, .int .i64 x1, .int .i64 x2, .int .i64 x3, .int .i64 x4, .int .i64 x5, .int .i64 x6, .int .i64 x7] 43)) := by go_grown
  have HL := Lib.hid (large_any d e _ 0 w.heap.size _ (h.below b0 (Nat.le_refl _)) b0.size)
  rw [hl] at HL
  have HB0 := Lib.hid b0
  clear h hl b0
  go_enter Try.func6, Try.ntmps6
  go_wp2_with fail
  refine HL.out.mono ?_
  rintro r w1 ⟨rfl, b1⟩
  simp only [Option.isNone_none]
  go_wp2_with fail
  refine (awake_any _).mono ?_
  rintro r w2 ⟨rfl, b2⟩
  go_wp2_with fail
  go_ret
  exact ⟨rfl, HB0.out.trans ((b1.trans (b2.mono b1.size)).mono HB0.out.size)⟩

set_option maxRecDepth 100000 in
set_option maxHeartbeats 8000000 in
theorem told_small (v : Value) (d : Nat) (e : Ex) (x0 x1 x2 x3 x4 x5 x6 x7 : Int) (A : Option Addr) (c : Nat) (L : List Int) (w : World) (h : At w 0 w.heap.size d v e) (k0 : Nat) (hl : muchF d e 0 = some k0) (hI : Ints w w.heap.size A L) :
    Calls Try.prog 6 #[v, .agg #[.int .i64 x0, .int .i64 x1, .int .i64 x2, .int .i64 x3, .int .i64 x4, .int .i64 x5, .int .i64 x6, .int .i64 x7], .slice A L.length c] w fun e w' => e = .returned (.bool true) ∧ Below w.heap.size w w' := by
  obtain ⟨hcnt, h400⟩ := muchF_cnt _ _ _ _ hl
  obtain ⟨x, y, z, rfl⟩ := h.boxed
  obtain ⟨o', n', A', l', c', rfl, rfl, rfl⟩ := h.form
  obtain ⟨W, hW⟩ : ∃ W, W = ((w.alloc (.cells #[.int .u8 o', .int .i64 n', .slice A' l' c'] 24)).alloc (.cells #[.int .i64 x0, .int .i64 x1, .int .i64 x2, .int .i64 x3, .int .i64 x4, .int .i64 x5, .int .i64 x6, .int .i64 x7] 43)) := ⟨_, rfl⟩
  have b0 : Below w.heap.size w W := by rw [hW]; go_grown
  have z0 : W.heap.size = w.heap.size + 2 := by rw [hW]; simp
  have hbx : Boxed W w.heap.size (.int .u8 o') (.int .i64 n') (.slice A' l' c') := by
    rw [hW]
    exact (Boxed.new w _ _ _).below (B := w.heap.size + 1) ((Below.refl _ _).alloc (by simp) _) (by omega)
  have hlr : W.heap[w.heap.size + 1]? = some (.cells #[.int .i64 x0, .int .i64 x1, .int .i64 x2, .int .i64 x3, .int .i64 x4, .int .i64 x5, .int .i64 x6, .int .i64 x7] 43 (0, 0)) := by
    rw [hW]
    have := heap_alloc_new (w.alloc (.cells #[.int .u8 o', .int .i64 n', .slice A' l' c'] 24)) (.cells #[.int .i64 x0, .int .i64 x1, .int .i64 x2, .int .i64 x3, .int .i64 x4, .int .i64 x5, .int .i64 x6, .int .i64 x7] 43)
    simpa using this
  have hLo : Ints W W.heap.size (some ⟨w.heap.size + 1, 0, none⟩) [x0, x1, x2, x3, x4, x5, x6, x7] := ⟨by simp, fun k hk => by
    have hk8 : k < 8 := hk
    refine ⟨_, rfl, by show w.heap.size + 1 < _; omega, ?_⟩
    rw [row_add]
    obtain rfl | rfl | rfl | rfl | rfl | rfl | rfl | rfl : k = 0 ∨ k = 1 ∨ k = 2 ∨ k = 3 ∨ k = 4 ∨ k = 5 ∨ k = 6 ∨ k = 7 := by omega
    all_goals simp [World.cell?, hlr]⟩
  have hA := h.below b0 (Nat.le_refl _)
  have hG := hI.below b0 (Nat.le_refl _)
  have HL := Lib.hid (large_any d e _ 0 w.heap.size _ hA (by omega))
  rw [hl] at HL
  rw [hW] at HL
  have HB0 := Lib.hid b0
  have HBX := Lib.hid hbx
  have HLO := Lib.hid hLo
  have HA := Lib.hid hA
  have HG := Lib.hid hG
  have HC := Lib.hid hcnt
  clear h hl b0 hI hbx hlr hLo hA hG hcnt
  have hlen := HG.out.len
  by_cases hn : 100 < L.length
  · clear HBX HLO HA HG HC
    rw [hW] at HB0
    go_enter Try.func6, Try.ntmps6
    go_wp2_with fail
    refine HL.out.mono ?_
    rintro r w1 ⟨rfl, b1⟩
    simp only [Option.isNone_some]
    go_wp2_with fail
    refine (awake_any _).mono ?_
    rintro r w2 ⟨rfl, b2⟩
    go_wp2_with fail
    go_ret
    exact ⟨rfl, HB0.out.trans ((b1.trans (b2.mono b1.size)).mono HB0.out.size)⟩
  · go_enter Try.func6, Try.ntmps6
    go_upto_region 1 with fail
    rw [← hW] at HL ⊢
    have f0 := HBX.out.c0
    have f1 := HBX.out.c1
    have f2 := HBX.out.c2
    clear hW
    go_wp2_with fail
    refine HL.out.mono ?_
    rintro r w1 ⟨rfl, b1⟩
    simp only [Option.isNone_some]
    go_wp2_with fail
    refine (awake_any _).mono ?_
    rintro r w2 ⟨rfl, b2⟩
    have b3 := b1.trans (b2.mono b1.size)
    clear f0 f1 f2 b1 b2 HL
    have hbx := HBX.out.below b3 (by omega)
    have f0 := hbx.c0
    have f1 := hbx.c1
    have f2 := hbx.c2
    clear hbx
    have HM := Lib.hid (may_any d e _ 0 w.heap.size L.length (by omega) (by omega) w2 (HA.out.below b3 (by omega)) (by have := b3.size; omega))
    cases hm : (wholeF 6 e && belowF d e L.length) with
    | false =>
      rw [hm] at HM
      clear hm
      go_wp2_with fail
      refine HM.out.mono ?_
      rintro r w3 ⟨rfl, b4⟩
      go_wp2_with fail
      go_ret
      exact ⟨rfl, HB0.out.trans ((b3.trans (b4.mono b3.size)).mono HB0.out.size)⟩
    | true =>
      rw [hm] at HM
      rw [Bool.and_eq_true] at hm
      obtain ⟨u, hu⟩ := eval_ok [x0, x1, x2, x3, x4, x5, x6, x7] L rfl HA.out hm.1 hm.2
      go_wp2_with fail
      refine HM.out.mono ?_
      rintro r w3 ⟨rfl, b4⟩
      have b5 := b3.trans (b4.mono b3.size)
      clear f0 f1 f2 b3 b4 HM
      have hbx := HBX.out.below b5 (by omega)
      have f0 := hbx.c0
      have f1 := hbx.c1
      have f2 := hbx.c2
      clear hbx
      have HE : Hid (∀ W', Below W.heap.size W W' → Calls Try.prog 12 #[.agg #[.int .u8 o', .int .i64 n', .slice A' l' c'], .slice (some ⟨w.heap.size + 1, 0, none⟩) 8 8, .slice A L.length c] W' fun r w' => r = .returned (.tuple #[.int .i64 u, .int .i64 0]) ∧ Below W'.heap.size W' w') := fun W' hW' => by
        have := eval_any (some ⟨w.heap.size + 1, 0, none⟩) A 8 c W.heap.size w.heap.size [x0, x1, x2, x3, x4, x5, x6, x7] L d e _ 0 w.heap.size W' (HA.out.below hW' (by omega)) (by have := hW'.size; omega) (HLO.out.below hW' (Nat.le_refl _)) hW'.size (HG.out.below hW' (by omega)) (by have := hW'.size; omega)
        rw [hu] at this
        exact this
      clear hm
      have hgz : w.heap.size < W.heap.size := by omega
      go_wp2_with fail
      go_region_held3 (fun w' => w'.cell? ⟨w.heap.size, 0, none⟩ = some (.int .u8 o') ∧ w'.cell? ⟨w.heap.size, 1, none⟩ = some (.int .i64 n') ∧ w'.cell? ⟨w.heap.size, 2, none⟩ = some (.slice A' l' c') ∧ Below W.heap.size W w')
        (first | exact sB hgz (by assumption) b6 | exact sB hgz ⟨f0, f1, f2, b5⟩ (b_drew _) | exact ⟨f0, f1, f2, b5⟩ | fail)
        (first | (go_at_call 12; refine (HE.out _ (sBb (by assumption))).mono ?_; rintro r w4 ⟨rfl, b6⟩) | fail)
      have b7 : Below W.heap.size W w4 := by
        first
          | exact b5.trans (b6.mono b5.size)
          | exact b5.trans (((b_drew _).trans (b6.mono (b_drew _).size)).mono b5.size)
      have hbx := HBX.out.below b7 hgz
      clear f0 f1 f2 b5 b6 HE
      have f0 := hbx.c0
      have f1 := hbx.c1
      have f2 := hbx.c2
      clear hbx
      have HCP : Hid (∀ W', Below W.heap.size W W' → Calls Try.prog 14 #[.agg #[.int .u8 o', .int .i64 n', .slice A' l' c']] W' (Copied W' d e)) := fun W' hW' =>
        copy_any d e _ 0 w.heap.size W' (HA.out.below hW' (by omega)) (by have := hW'.size; omega) (by rw [HC.out]; omega)
      have HE2 : Hid (∀ (v5 : Value) (lo hi h6 h7 : Nat) (A6 A7 : Option Addr) (c6 c7 : Nat) (W' : World), At W' lo hi d v5 e → hi ≤ W'.heap.size → Ints W' h6 A6 [x0, x1, x2, x3, x4, x5, x6, x7] → h6 ≤ W'.heap.size → Ints W' h7 A7 L → h7 ≤ W'.heap.size → Calls Try.prog 12 #[v5, .slice A6 8 c6, .slice A7 L.length c7] W' fun r w' => r = .returned (.tuple #[.int .i64 u, .int .i64 0]) ∧ Below W'.heap.size W' w') := fun v5 lo hi h6 h7 A6 A7 c6 c7 W' g1 g2 g3 g4 g5 g6 => by
        have := eval_any A6 A7 c6 c7 h6 h7 [x0, x1, x2, x3, x4, x5, x6, x7] L d e v5 lo hi W' g1 g2 g3 g4 g5 g6
        rw [hu] at this
        exact this
      have hl1000 : L.length ≤ 1000 := by omega
      clear hn hu
      go_wp2_with fail
      go_region_held3 (fun w' => w'.cell? ⟨w.heap.size, 0, none⟩ = some (.int .u8 o') ∧ w'.cell? ⟨w.heap.size, 1, none⟩ = some (.int .i64 n') ∧ w'.cell? ⟨w.heap.size, 2, none⟩ = some (.slice A' l' c') ∧ Below W.heap.size W w')
        (first | exact sB hgz (by assumption) b11 | exact sB hgz (by assumption) b10 | exact sB hgz (by assumption) b9 | exact sB hgz (by assumption) b8 | exact sB hgz (by assumption) (b_alloc _ _) | exact sB hgz ⟨f0, f1, f2, b7⟩ (b_drew _) | fail)
        (first
          | (go_at_call 14; refine (HCP.out _ (sBb (by assumption))).mono ?_; rintro r w5 ⟨v5, rfl, hA5, b8⟩)
          | (go_at_call 12; have hS7 : Below W.heap.size W w7 := sBb (by assumption); refine (HE2.out _ _ _ _ _ _ _ _ _ _ (hA5.below (q6.trans (q7.mono q6.size)) (Nat.le_refl _)) (q6.trans (q7.mono q6.size)).size (hI6.below q7 (Nat.le_refl _)) q7.size hI7 (Nat.le_refl _)).mono ?_; rintro r w8 ⟨rfl, b11⟩)
          | (refine step_clone (ops := _) (K := _) (Q := _) (E := _) rfl (.tmp 38) (.tmp 39) rfl rfl rfl (HLO.out.below (sBb (by assumption)) (Nat.le_refl _)) (by simp) ?_; intro A6 c6 w6 hI6 b9; have q6 : Below w5.heap.size w5 w6 := (by first | exact b9 | exact c1b b9 | exact c2b b9))
          | (refine step_clone (ops := _) (K := _) (Q := _) (E := _) rfl (.tmp 41) (.tmp 42) rfl rfl rfl (HG.out.below (sBb (by assumption)) (by omega)) hl1000 ?_; intro A7 c7 w7 hI7 b10; have q7 : Below w6.heap.size w6 w7 := (by first | exact b10 | exact c1b b10))
          | fail)
      all_goals
        have hT := hS7.trans (b11.mono hS7.size)
        clear f0 f1 f2 hS7 b11 q6 q7 hA5 hI6 hI7 HE2 HCP b8 b9 b10
        go_wp2_with fail
        go_ret
        exact ⟨rfl, HB0.out.trans (hT.mono HB0.out.size)⟩

theorem ExprTold_walk (v0 : Value) (n0 : Nat) (e0 : Ex) (x0 x1 x2 x3 x4 x5 x6 x7 : Int) (A2 : Option Addr) (c2 : Nat) (L2 : List Int) (w : World) (hE0 : At w 0 w.heap.size n0 v0 e0) (hI2 : Ints w w.heap.size A2 L2) :
    Calls Try.prog 6 #[v0, .agg #[.int .i64 x0, .int .i64 x1, .int .i64 x2, .int .i64 x3, .int .i64 x4, .int .i64 x5, .int .i64 x6, .int .i64 x7], .slice A2 L2.length c2] w fun e w' => e = .returned (.bool true) ∧ Below w.heap.size w w' := by
  cases hl : muchF n0 e0 0 with
  | none => exact told_large v0 n0 e0 x0 x1 x2 x3 x4 x5 x6 x7 A2 c2 L2 w hE0 hl
  | some k0 => exact told_small v0 n0 e0 x0 x1 x2 x3 x4 x5 x6 x7 A2 c2 L2 w hE0 k0 hl hI2

theorem ExprTold_laid : laidOutB Try.prog = true := by kernel_rfl
set_option maxRecDepth 100000 in
theorem ExprTold_lifted (os : Os) (started : os.Started) (H : Type) (enc : TypeId × Value → H) :
    ReturnsInHanded {} Try.checked os 6 .any (Rows.exprToldSpec.pre6 enc Try.prog Try.f6 Rows.exprToldRow.domain false) (Rows.exprToldSpec.post enc Try.prog Try.f6 false true false false) := by
  refine returnsInHanded_of_change (C := Try.checked) lift_own started (by kernel_rfl) Try.func6
    (ChangeSpec.witness6 (enc := enc) (C := Try.checked) false ⟨#[], #[.agg #[.int .u8 0, .int .i64 0, .slice none 0 0], .agg #[.int .i64 0, .int .i64 0, .int .i64 0, .int .i64 0, .int .i64 0, .int .i64 0, .int .i64 0, .int .i64 0], .slice none 0 0], []⟩ 8 (by kernel_rfl) (by kernel_rfl) (by kernel_rfl) (by kernel_rfl)) ?_
  intro W base args ds gs before hval0 hW hcnd _
  have hval : ∀ (j : Nat) t v, Try.f6.params[j]? = some t → args[j]? = some v → Value.okWide Try.prog W .any base t v := hval0
  have hW' := hW
  obtain ⟨p, q, hA0, hV, rfl, hfz, hnd⟩ := hW
  have hA : DataW.TrodAll enc Try.prog W 0 (fun _ => true) true Try.f6.params.toList args.toList ds p := hA0
  rw [Try.params6] at hA hval
  obtain ⟨v0, vs0, d0, ds0, p0, q0, hargs, rfl, rfl, h0, r0⟩ := trodAll_cons hA
  obtain ⟨v1, vs1, d1, ds1, p1, q1, rfl, rfl, rfl, h1, r1⟩ := trodAll_cons r0
  obtain ⟨v2, vs2, d2, ds2, p2, q2, rfl, rfl, rfl, h2, r2⟩ := trodAll_cons r1
  obtain ⟨rfl, rfl, rfl⟩ := trodAll_nil r2
  obtain rfl : args = #[v0, v1, v2] := by cases args; simp_all
  obtain ⟨rfl, rfl⟩ := trodVars_none hV
  obtain ⟨n0, e0, hE0⟩ := open_expr (hval 0 24 v0 rfl rfl) h0
  obtain ⟨x0, x1, x2, x3, x4, x5, x6, x7, rfl⟩ := open_arr8 (hval 1 43 v1 rfl rfl) h1
  obtain ⟨A2, c2, L2, rfl, hI2⟩ := open_nums (hval 2 25 v2 rfl rfl) h2
  clear hA0 hval0
  simp only [List.append_nil] at hW'
  refine (ExprTold_walk v0 n0 e0 x0 x1 x2 x3 x4 x5 x6 x7 A2 c2 L2 W hE0 hI2).mono fun e W' ⟨he, hg⟩ => ?_
  subst he
  exact ⟨_, rfl, lift_post (pv := []) hW' (fun _ _ _ => (trodAll_cons_mk (shut_bool Try.underlying4 _) trodAll_mk0)) (fun sp hsp => (trodAll_cons_mk (WideElems.Trod_stays ExprTold_laid (by kernel_rfl) (of_decide_eq_true (by kernel_rfl)) h0 (fun x hx => hg.same (hW'.lt x (by simp [hx]))) (fun x hx => hsp x (by simp [hx]))) (trodAll_cons_mk (WideElems.Trod_stays ExprTold_laid (by kernel_rfl) (of_decide_eq_true (by kernel_rfl)) h1 (fun x hx => hg.same (hW'.lt x (by simp [hx]))) (fun x hx => hsp x (by simp [hx]))) (trodAll_cons_mk (WideElems.Trod_stays ExprTold_laid (by kernel_rfl) (of_decide_eq_true (by kernel_rfl)) h2 (fun x hx => hg.same (hW'.lt x (by simp [hx]))) (fun x hx => hsp x (by simp [hx]))) trodAll_mk0)))) (fun _ _ => rfl) (by simp)
    hg (ok_one (by kernel_rfl) rfl (okWide_bool_mk Try.underlying4 _))⟩

/-- THE STATEMENT of ExprTold: for every input the call returns true, and each argument reads behind it as before. -/
theorem ExprTold_holds : Rows.ExprToldSaid :=
  OpenClaim.holds_of_wide 6 Try.f6 rfl rfl rfl rfl rfl rfl rfl ⟨rfl, rfl, rfl, rfl, rfl⟩ rfl rfl rfl rfl rfl (by kernel_rfl) Try.func6 (by kernel_rfl)
    (of_decide_eq_true (by kernel_rfl)) (by unfold Func.isWrapper; first | (rw [if_pos (by decide +kernel)]; kernel_rfl) | (rw [if_neg (by decide +kernel)]; exact ⟨rfl, rfl⟩))
    (fun os started H enc _ => ExprTold_lifted os started H enc)
end Go.Proofs.Ytlalknapmnadpaa
