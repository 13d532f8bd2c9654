/-
  EventMore (promise P12.5): what may be may be over more threads; and over more variables, with as many stripes; and with more stripes: for every input the call returns true, and each argument reads behind it as before; as its TIED CARD (the tables lie as the program's text lays them). Condition: the row's own (laid).
-/
import Derived.Test.YtjholjlmlglgnaaDoorWt
namespace Go.Proofs.YtjholjlmlglgnaaDoor
set_option maxRecDepth 100000
open Go.ChangeShapes Go.WideShapes Go.ChangeAt Go.RowKit Go.WideElems Go.WideMaps
set_option linter.unusedVariables false
set_option maxHeartbeats 2000000 in
theorem EventMore_walk (e : Ev) (ok : EvOk e) (T : Int) (T1 : -9223372036854775808 ≤ T) (T2 : T < 9223372036854775808) (V : Int) (V1 : -9223372036854775808 ≤ V) (V2 : V < 9223372036854775808) (S : Int) (S1 : -9223372036854775808 ≤ S) (S2 : S < 9223372036854775808) (a : Int) (a1 : -9223372036854775808 ≤ a) (a2 : a < 9223372036854775808) (b : Int) (b1 : -9223372036854775808 ≤ b) (b2 : b < 9223372036854775808) (c : Int) (c1 : -9223372036854775808 ≤ c) (c2 : c < 9223372036854775808) (w : World) (he : Ek w) :
    Calls Tryd.prog 8 #[evV e, .int .i64 T, .int .i64 V, .int .i64 S, .int .i64 a, .int .i64 b, .int .i64 c] w fun r w' => r = .returned (.bool true) ∧ Below w.heap.size w w' := by
  have HA : Hid (∀ w1, Below w.heap.size w w1 → Calls Tryd.prog 9 #[] w1 fun r w' => r = .returned (.bool true) ∧ Below w1.heap.size w1 w') := fun w1 h => awake_any w1 (he.below h)
  have HM : Hid (∀ (T V S : Int) (b : Bool) w1, mayB e T V S = b → Below w.heap.size w w1 → Calls Tryd.prog 14 #[evV e, .int .i64 T, .int .i64 V, .int .i64 S] w1 fun r w' => r = .returned (.bool b) ∧ Below w1.heap.size w1 w') := fun T V S b w1 hb h => hb ▸ may_any e ok T V S w1 (he.below h)
  have HX : Hid (∀ a b c : Int, mayB e T V S = true → T ≤ a → a ≤ 6 → V ≤ b → b ≤ 32 → S ≤ c → c ≤ b → mayB e a V S = true ∧ mayB e T b S = true ∧ mayB e a b c = true) := fun a b c h h1 h2 h3 h4 h5 h6 => may_more h h1 h2 h3 h4 h5 h6
  have HS : Hid (mayB e T V S = true → 1 ≤ T ∧ T ≤ 6 ∧ 1 ≤ V ∧ V ≤ 32 ∧ 1 ≤ S ∧ S ≤ V) := fun h => by
    have h2 := ((may_iff _ _ _ _).1 h).1
    simp only [sizesB, Bool.and_eq_true, decide_eq_true_eq] at h2
    omega
  obtain ⟨ma, ha0, ha1⟩ := modW_wrap a 6 (by omega) (by omega)
  obtain ⟨mb, hb0, hb1⟩ := modW_wrap b 32 (by omega) (by omega)
  obtain ⟨mc, hc0, hc1⟩ := modW_wrap c 32 (by omega) (by omega)
  obtain ⟨ra, hra⟩ : ∃ r, r = modW a 6 := ⟨_, rfl⟩
  obtain ⟨rb, hrb⟩ : ∃ r, r = modW b 32 := ⟨_, rfl⟩
  obtain ⟨rc, hrc⟩ : ∃ r, r = modW c 32 := ⟨_, rfl⟩
  rw [← hra] at ma ha0 ha1
  rw [← hrb] at mb hb0 hb1
  rw [← hrc] at mc hc0 hc1
  obtain ⟨mb0, hmb⟩ : ∃ b, mayB e T V S = b := ⟨_, rfl⟩
  rw [hmb] at HX HS
  have HB := Lib.hid hmb
  clear he ok hra hrb hrc hmb
  obtain ⟨kd, th, tx, pl, v, x, why⟩ := e
  unfold evV at HM ⊢
  simp only at HM ⊢
  go_enter Tryd.func8, Tryd.ntmps8
  go_wp2_with fail
  obtain ⟨W0, hW0⟩ : ∃ W0, W0 = w.alloc (.cells #[.int .u8 kd, .int .i64 th, .int .i64 tx, .int .i64 pl, .int .i64 v, .int .i64 x, .int .u8 why] 23) := ⟨_, rfl⟩
  obtain ⟨g, hg⟩ : ∃ g, g = w.heap.size := ⟨_, rfl⟩
  have hr : W0.heap[g]? = some (.cells #[.int .u8 kd, .int .i64 th, .int .i64 tx, .int .i64 pl, .int .i64 v, .int .i64 x, .int .u8 why] 23 (0, 0)) := by rw [hW0, hg]; exact heap_alloc_new w _
  have hb : Below w.heap.size w W0 := by rw [hW0]; exact (Below.refl _ _).alloc (Nat.le_refl _) _
  have HR := Lib.hid hr
  have HB0 := Lib.hid hb
  rw [← hW0, ← hg]
  have B0 : Hid (Below W0.heap.size W0 W0) := Below.refl _ _
  clear hW0 hg hr hb
  refine (HA.out W0 HB0.out).mono ?_
  rintro _ w1 ⟨rfl, b1⟩
  have B1 : Hid (Below W0.heap.size W0 w1) := B0.out.trans (b1.mono B0.out.size)
  clear b1 HA
  obtain ⟨x0, x1, x2, x3, x4, x5, x6⟩ := evat (row_stays HR.out B1.out)
  go_wp2_with fail
  refine (HM.out T V S mb0 w1 HB.out (HB0.out.trans (B1.out.mono HB0.out.size))).mono ?_
  rintro _ w2 ⟨rfl, b2⟩
  have B2 : Hid (Below W0.heap.size W0 w2) := B1.out.trans (b2.mono B1.out.size)
  clear b2 x0 x1 x2 x3 x4 x5 x6
  obtain ⟨x0, x1, x2, x3, x4, x5, x6⟩ := evat (row_stays HR.out B2.out)
  cases mb0 with
  | false =>
    clear HM HX HS HB
    go_wp2_with fail
    go_ret
    exact ⟨rfl, HB0.out.trans (B2.out.mono HB0.out.size)⟩
  | true =>
    obtain ⟨s1, s2, s3, s4, s5, s6⟩ := HS.out rfl
    obtain ⟨m1, m2, m3⟩ := HX.out (min (T + ra) 6) (min (V + rb) 32) (min (S + rc) (min (V + rb) 32)) rfl (by omega) (by omega) (by omega) (by omega) (by omega) (by omega)
    have M1 := Lib.hid m1
    have M2 := Lib.hid m2
    have M3 := Lib.hid m3
    clear m1 m2 m3 HX HS
    go_wp2_with fail
    refine (HM.out _ _ _ _ w2 M1.out (HB0.out.trans (B2.out.mono HB0.out.size))).mono ?_
    rintro _ w3 ⟨rfl, b3⟩
    have B3 : Hid (Below W0.heap.size W0 w3) := B2.out.trans (b3.mono B2.out.size)
    clear b3 x0 x1 x2 x3 x4 x5 x6
    obtain ⟨x0, x1, x2, x3, x4, x5, x6⟩ := evat (row_stays HR.out B3.out)
    go_wp2_with fail
    refine (HM.out _ _ _ _ w3 M2.out (HB0.out.trans (B3.out.mono HB0.out.size))).mono ?_
    rintro _ w4 ⟨rfl, b4⟩
    have B4 : Hid (Below W0.heap.size W0 w4) := B3.out.trans (b4.mono B3.out.size)
    clear b4 x0 x1 x2 x3 x4 x5 x6
    obtain ⟨x0, x1, x2, x3, x4, x5, x6⟩ := evat (row_stays HR.out B4.out)
    go_wp2_with fail
    refine (HM.out _ _ _ _ w4 M3.out (HB0.out.trans (B4.out.mono HB0.out.size))).mono ?_
    rintro _ w5 ⟨rfl, b5⟩
    have B5 : Hid (Below W0.heap.size W0 w5) := B4.out.trans (b5.mono B4.out.size)
    clear b5 x0 x1 x2 x3 x4 x5 x6
    go_wp2_with fail
    go_ret
    exact ⟨rfl, HB0.out.trans (B5.out.mono HB0.out.size)⟩
theorem EventMore_laid : laidOutB Tryd.prog = true := by kernel_rfl
set_option maxRecDepth 100000 in
theorem EventMore_lifted (os : Os) (started : os.Started) (H : Type) (enc : TypeId × Value → H) :
    ReturnsInHanded {} Tryd.checked os 8 .any (fun w args => (Rows.eventMoreSpec.pre enc Tryd.prog Tryd.f8 [] false w args ∧ laidMetH Tryd.prog [("math/bits.deBruijn32tab", Rows.laid_math_bits_deBruijn32tab), ("math/bits.deBruijn64tab", Rows.laid_math_bits_deBruijn64tab), ("internal/strconv.uint64pow10", Rows.laid_internal_strconv_uint64pow10), ("strconv.ErrRange", Rows.laid_strconv_ErrRange), ("strconv.ErrSyntax", Rows.laid_strconv_ErrSyntax), ("seesaw/event.names", Rows.laid_seesaw_event_names)] w) ∧ sizedMet enc Tryd.prog Tryd.f8 (OpenSpec.ofChange Rows.eventMoreSpec) false w args)
      (Rows.eventMoreSpec.post enc Tryd.prog Tryd.f8 false true false false) := by
  refine returnsInHanded_of_change_and (C := Tryd.checked) (X := fun w _ => laidMetH Tryd.prog [("math/bits.deBruijn32tab", Rows.laid_math_bits_deBruijn32tab), ("math/bits.deBruijn64tab", Rows.laid_math_bits_deBruijn64tab), ("internal/strconv.uint64pow10", Rows.laid_internal_strconv_uint64pow10), ("strconv.ErrRange", Rows.laid_strconv_ErrRange), ("strconv.ErrSyntax", Rows.laid_strconv_ErrSyntax), ("seesaw/event.names", Rows.laid_seesaw_event_names)] w) (fun _ _ _ hh h => h.of_heap hh) lift_own started (by kernel_rfl) Tryd.func8
    (ChangeSpec.witness_shaped (enc := enc) (C := Tryd.checked) (os := os) (X := fun w _ => laidMetH Tryd.prog [("math/bits.deBruijn32tab", Rows.laid_math_bits_deBruijn32tab), ("math/bits.deBruijn64tab", Rows.laid_math_bits_deBruijn64tab), ("internal/strconv.uint64pow10", Rows.laid_internal_strconv_uint64pow10), ("strconv.ErrRange", Rows.laid_strconv_ErrRange), ("strconv.ErrSyntax", Rows.laid_strconv_ErrSyntax), ("seesaw/event.names", Rows.laid_seesaw_event_names)] w) false (World.doorLaid Tryd.prog 400 os) #[.agg #[.int .u8 0, .int .i64 0, .int .i64 0, .int .i64 0, .int .i64 0, .int .i64 0, .int .u8 0], .int .i64 0, .int .i64 0, .int .i64 0, .int .i64 0, .int .i64 0, .int .i64 0] 8 rfl (World.shaped_of_RefB (by kernel_rfl) (by kernel_rfl)) (by kernel_rfl) (by kernel_rfl) (by kernel_rfl) (door_metE os _)) ?_
  intro W base args ds gs before hval0 hW _ _ hL _
  have hval : ∀ (j : Nat) t v, Tryd.f8.params[j]? = some t → args[j]? = some v → Value.okWide Tryd.prog W .any base t v := hval0
  have hW' := hW
  obtain ⟨p, q, hA0, hV, rfl, hfz, hnd⟩ := hW
  have hA : DataW.TrodAll enc Tryd.prog W 0 (fun _ => true) true Tryd.f8.params.toList args.toList ds p := hA0
  rw [Tryd.params8] at hA hval
  obtain ⟨v0, vs0, d0, ds0, p0, q0, hargs, rfl, rfl, h0, r0⟩ := trodAll_cons hA
  obtain ⟨v1, vs1, d1, ds1, p1, q1, rfl, rfl, rfl, h1, r1⟩ := trodAll_cons r0
  obtain ⟨v2, vs2, d2, ds2, p2, q2, rfl, rfl, rfl, h2, r2⟩ := trodAll_cons r1
  obtain ⟨v3, vs3, d3, ds3, p3, q3, rfl, rfl, rfl, h3, r3⟩ := trodAll_cons r2
  obtain ⟨v4, vs4, d4, ds4, p4, q4, rfl, rfl, rfl, h4, r4⟩ := trodAll_cons r3
  obtain ⟨v5, vs5, d5, ds5, p5, q5, rfl, rfl, rfl, h5, r5⟩ := trodAll_cons r4
  obtain ⟨v6, vs6, d6, ds6, p6, q6, rfl, rfl, rfl, h6, r6⟩ := trodAll_cons r5
  obtain ⟨rfl, rfl, rfl⟩ := trodAll_nil r6
  obtain rfl : args = #[v0, v1, v2, v3, v4, v5, v6] := by cases args; simp_all
  obtain ⟨rfl, rfl⟩ := trodVars_none hV
  obtain ⟨e0, hE0, rfl⟩ := open_event (hval 0 23 v0 rfl rfl) h0
  obtain ⟨a1, rfl, rfl, rfl, w1⟩ := open_int Tryd.underlying3 (hval 1 3 v1 rfl rfl) h1
  obtain ⟨a2, rfl, rfl, rfl, w2⟩ := open_int Tryd.underlying3 (hval 2 3 v2 rfl rfl) h2
  obtain ⟨a3, rfl, rfl, rfl, w3⟩ := open_int Tryd.underlying3 (hval 3 3 v3 rfl rfl) h3
  obtain ⟨a4, rfl, rfl, rfl, w4⟩ := open_int Tryd.underlying3 (hval 4 3 v4 rfl rfl) h4
  obtain ⟨a5, rfl, rfl, rfl, w5⟩ := open_int Tryd.underlying3 (hval 5 3 v5 rfl rfl) h5
  obtain ⟨a6, rfl, rfl, rfl, w6⟩ := open_int Tryd.underlying3 (hval 6 3 v6 rfl rfl) h6
  clear hA0 hval0
  simp only [List.append_nil] at hW'
  try simp only [List.nil_append] at hW'
  refine (EventMore_walk e0 hE0 a1 (lit_range2 w1).1 (lit_range2 w1).2 a2 (lit_range2 w2).1 (lit_range2 w2).2 a3 (lit_range2 w3).1 (lit_range2 w3).2 a4 (lit_range2 w4).1 (lit_range2 w4).2 a5 (lit_range2 w5).1 (lit_range2 w5).2 a6 (lit_range2 w6).1 (lit_range2 w6).2 W (ek_of_laidE hL)).mono fun e W' ⟨he, hg⟩ => ?_
  subst he
  exact ⟨_, rfl, lift_post (pv := []) hW' (fun _ _ _ => (trodAll_cons_mk (shut_bool Tryd.underlying4 _) trodAll_mk0)) (fun sp hsp => (trodAll_cons_mk (WideElems.Trod_stays EventMore_laid (by kernel_rfl) (of_decide_eq_true (by kernel_rfl)) h0 (fun x hx => hg.same (hW'.lt x (by simp [hx]))) (fun x hx => hsp x (by simp [hx]))) (trodAll_cons_mk (shut_int Tryd.underlying3 w1) (trodAll_cons_mk (shut_int Tryd.underlying3 w2) (trodAll_cons_mk (shut_int Tryd.underlying3 w3) (trodAll_cons_mk (shut_int Tryd.underlying3 w4) (trodAll_cons_mk (shut_int Tryd.underlying3 w5) (trodAll_cons_mk (shut_int Tryd.underlying3 w6) trodAll_mk0)))))))) (fun _ _ => rfl) (by simp)
    hg (ok_one (by kernel_rfl) rfl (okWide_bool_mk Tryd.underlying4 _))⟩
/-- THE STATEMENT of EventMore: for every input the call returns true, and each argument reads behind it as before. -/
theorem EventMore_holds : Rows.EventMoreSaid :=
  OpenClaim.holds_of_wide 8 Tryd.f8 rfl rfl rfl rfl rfl rfl rfl ⟨rfl, rfl, rfl, rfl, rfl⟩ rfl rfl rfl rfl rfl (by kernel_rfl) Tryd.func8 (by kernel_rfl)
    (of_decide_eq_true (by kernel_rfl)) (by unfold Func.isWrapper; first | (rw [if_pos (by decide +kernel)]; kernel_rfl) | (rw [if_neg (by decide +kernel)]; exact ⟨rfl, rfl⟩))
    (fun os started H enc _ => EventMore_lifted os started H enc)
/-- THE TIED CARD of EventMore. -/
theorem EventMoreCard_holds : Rows.EventMoreCardSaid :=
  Claim7.holds_tied_plain_at .later [] [.data, .data, .data, .sentinel, .sentinel, .data] true Rows.eventMoreCard.stood.harness true
    EventMore_holds (fun _ h => by cases h) (by kernel_rfl) (fun _ h => by cases h) eventMore_row_tie rfl ⟨rfl, rfl⟩ (by kernel_rfl) rfl
    (fun f fn hf hfn => by
      obtain rfl : f = 8 := Option.some.inj ((show Tryd.prog.funcNamed "seesaw/seesawlaw12.EventMore" = some 8 by kernel_rfl).symm.trans hf) |>.symm
      obtain rfl : fn = Tryd.f8 := (Option.some.inj (Tryd.func8.symm.trans hfn)).symm
      exact ⟨by kernel_rfl, fun j t ht => by
        rw [Tryd.params8] at ht
        have hm : t ∈ [23, 3, 3, 3, 3, 3, 3] := by simpa using Array.mem_of_getElem? ht
        have hall : ([23, 3, 3, 3, 3, 3, 3].all fun u => !Tryd.prog.wantsStandIn u) = true := by kernel_rfl
        exact (show Tryd.prog.wantsStandIn t = false by simpa using List.all_eq_true.1 hall t hm)⟩)
    (by kernel_rfl)
end Go.Proofs.YtjholjlmlglgnaaDoor
