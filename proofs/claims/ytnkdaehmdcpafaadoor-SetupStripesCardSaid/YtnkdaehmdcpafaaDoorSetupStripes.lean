/-
  SetupStripes (P6.2): for all numbers the stripe of a variable, and the variables of a stripe, are the document's, or it is refused: the statement holds, and its card. Condition: code's table lies as its initialiser lays it, which the card ties to the program's text.
-/
import Derived.Test.YtnkdaehmdcpafaaDoorUd
import Derived.Test.YtnkdaehmdcpafaaDoorUl
namespace Go.Proofs.YtnkdaehmdcpafaaDoor
open Go.ChangeShapes Go.WideShapes Go.ChangeAt Go.RowKit Go.WideElems Go.WideMaps
set_option linter.unusedVariables false
set_option maxRecDepth 100000 in
theorem SetupStripes_walk (v : Int) (v0 : -9223372036854775808 ≤ v) (v1 : v < 9223372036854775808) (a : Int) (a0 : -9223372036854775808 ≤ a) (a1 : a < 9223372036854775808) (s : Int) (s0 : -9223372036854775808 ≤ s) (s1 : s < 9223372036854775808) (n : Int) (n0 : -9223372036854775808 ≤ n) (n1 : n < 9223372036854775808) (W : World) :
    Calls Tryd.prog 4 #[.int .i64 v, .int .i64 a, .int .i64 s, .int .i64 n] W fun e w' => e = .returned (.bool true) ∧ Below W.heap.size W w' := by
  have HA := Lib.hid awake_any
  by_cases h5 : 5000 < n
  · go_enter Tryd.func4, Tryd.ntmps4
    go_wp2_with fail
    refine (HA.out W).mono ?_
    rintro _ w1 ⟨rfl, b1⟩
    go_wp2_with fail
    go_ret
    exact ⟨rfl, b1⟩
  · have H1 := Lib.hid (stripe_any v s v0 v1 s1)
    have H2 := Lib.hid (rstripe_any v s v0 v1 s1)
    have H3 := Lib.hid (vars_any a s n a0 a1 s0 s1 (by omega))
    have H4 := Lib.hid (rvars_any a s n a0 a1 s0 s1 (by omega))
    have HN := Lib.hid (numbers_same (varsF a s n) (varsF a s n))
    obtain ⟨st, hst⟩ : ∃ st, st = strF v s := ⟨_, rfl⟩
    obtain ⟨er, her⟩ : ∃ er, er = varsE a s n := ⟨_, rfl⟩
    obtain ⟨L, hL⟩ : ∃ L, L = varsF a s n := ⟨_, rfl⟩
    unfold Told at H3 H4
    rw [← hst] at H1 H2
    rw [← her, ← hL] at H3 H4
    rw [← hL] at HN
    obtain ⟨x1, x2⟩ := st
    clear hst her hL
    obtain ⟨l, hl⟩ : ∃ l, l = L.length := ⟨_, rfl⟩
    rw [← hl] at H3 H4 HN
    clear hl
    go_enter Tryd.func4, Tryd.ntmps4
    go_wp2_with fail
    refine (H1.out _).mono ?_
    rintro _ _ ⟨rfl, rfl⟩
    go_wp2_with fail
    refine (H2.out _).mono ?_
    rintro _ _ ⟨rfl, rfl⟩
    go_wp2_with fail
    refine (H3.out _).mono ?_
    rintro _ w1 ⟨A, c, rfl, hI, _, b1⟩
    have B1 := Lib.hid b1
    have HI := Lib.hid hI
    clear hI b1
    go_wp2_with fail
    refine (H4.out _).mono ?_
    rintro _ w2 ⟨A2, c2, rfl, hI, _, b2⟩
    have B2 := Lib.hid b2
    have HI2 := Lib.hid hI
    clear hI b2
    go_wp2_with fail
    refine (HN.out A A2 c c2 _ _ w2 (HI.out.below B2.out (Nat.le_refl _)) HI2.out B2.out.size (Nat.le_refl _)).mono ?_
    rintro _ w3 ⟨rfl, b3⟩
    have B3 := Lib.hid b3
    clear b3
    go_wp2_with fail
    refine (HA.out w3).mono ?_
    rintro _ w4 ⟨rfl, b4⟩
    have B4 : Hid (Below W.heap.size W w4) := B1.out.trans ((B2.out.trans ((B3.out.trans (b4.mono B3.out.size)).mono B2.out.size)).mono B1.out.size)
    clear b4
    go_wp2_with fail
    go_ret
    exact ⟨rfl, B4.out⟩
set_option maxRecDepth 100000 in
theorem SetupStripes_lifted (os : Os) (started : os.Started) (H : Type) (enc : TypeId × Value → H) :
    ReturnsInHanded {} Tryd.checked os 4 .any (fun w args => (Rows.setupStripesSpec.pre enc Tryd.prog Tryd.f4 [] false w args ∧ laidMetH Tryd.prog [("seesaw/code.kinds", Rows.laid_seesaw_code_kinds)] w) ∧ sizedMet enc Tryd.prog Tryd.f4 (OpenSpec.ofChange Rows.setupStripesSpec) false w args)
      (Rows.setupStripesSpec.post enc Tryd.prog Tryd.f4 false true false false) := by
  refine returnsInHanded_of_change_and (C := Tryd.checked) (X := fun w _ => laidMetH Tryd.prog [("seesaw/code.kinds", Rows.laid_seesaw_code_kinds)] w) (fun _ _ _ hh h => h.of_heap hh) lift_own started (by kernel_rfl) Tryd.func4
    (ChangeSpec.witness_shaped (enc := enc) (C := Tryd.checked) (os := os) (X := fun w _ => laidMetH Tryd.prog [("seesaw/code.kinds", Rows.laid_seesaw_code_kinds)] w) false (World.doorLaid Tryd.prog 400 os) #[.int .i64 0, .int .i64 0, .int .i64 0, .int .i64 0] 8 rfl (World.shaped_of_RefB (by kernel_rfl) (by kernel_rfl)) (by kernel_rfl) (by kernel_rfl) (by kernel_rfl) (door_met os _)) ?_
  intro W base args ds gs before hval0 hW _ _ hL _
  have hval : ∀ (j : Nat) t v, Tryd.f4.params[j]? = some t → args[j]? = some v → Value.okWide Tryd.prog W .any base t v := hval0
  have hW' := hW
  obtain ⟨p, q, hA0, hV, rfl, hfz, hnd⟩ := hW
  have hA : DataW.TrodAll enc Tryd.prog W 0 (fun _ => true) true Tryd.f4.params.toList args.toList ds p := hA0
  rw [Tryd.params4] at hA hval
  obtain ⟨v0, vs0, d0, ds0, p0, q0, hargs, rfl, rfl, h0, r0⟩ := trodAll_cons hA
  obtain ⟨v1, vs1, d1, ds1, p1, q1, rfl, rfl, rfl, h1, r1⟩ := trodAll_cons r0
  obtain ⟨v2, vs2, d2, ds2, p2, q2, rfl, rfl, rfl, h2, r2⟩ := trodAll_cons r1
  obtain ⟨v3, vs3, d3, ds3, p3, q3, rfl, rfl, rfl, h3, r3⟩ := trodAll_cons r2
  obtain ⟨rfl, rfl, rfl⟩ := trodAll_nil r3
  obtain rfl : args = #[v0, v1, v2, v3] := by cases args; simp_all
  obtain ⟨rfl, rfl⟩ := trodVars_none hV
  obtain ⟨a0, rfl, rfl, rfl, w0⟩ := open_int Tryd.underlying3 (hval 0 3 v0 rfl rfl) h0
  obtain ⟨a1, rfl, rfl, rfl, w1⟩ := open_int Tryd.underlying3 (hval 1 3 v1 rfl rfl) h1
  obtain ⟨a2, rfl, rfl, rfl, w2⟩ := open_int Tryd.underlying3 (hval 2 3 v2 rfl rfl) h2
  obtain ⟨a3, rfl, rfl, rfl, w3⟩ := open_int Tryd.underlying3 (hval 3 3 v3 rfl rfl) h3
  clear hA0 hval0
  simp only [List.append_nil] at hW'
  refine (SetupStripes_walk a0 (lit_range w0).1 (lit_range w0).2 a1 (lit_range w1).1 (lit_range w1).2 a2 (lit_range w2).1 (lit_range w2).2 a3 (lit_range w3).1 (lit_range w3).2 W).mono fun e W' ⟨he, hg⟩ => ?_
  subst he
  exact ⟨_, rfl, lift_post (pv := []) hW' (fun _ _ _ => (trodAll_cons_mk (shut_bool Tryd.underlying4 _) trodAll_mk0)) (fun sp hsp => (trodAll_cons_mk (shut_int Tryd.underlying3 w0) (trodAll_cons_mk (shut_int Tryd.underlying3 w1) (trodAll_cons_mk (shut_int Tryd.underlying3 w2) (trodAll_cons_mk (shut_int Tryd.underlying3 w3) trodAll_mk0))))) (fun _ _ => rfl) (by simp)
    hg (ok_one (by kernel_rfl) rfl (okWide_bool_mk Tryd.underlying4 _))⟩
/-- THE STATEMENT of SetupStripes: for every input the call returns true, and each argument reads behind it as before. -/
theorem SetupStripes_holds : Rows.SetupStripesSaid :=
  OpenClaim.holds_of_wide 4 Tryd.f4 rfl rfl rfl rfl rfl rfl rfl ⟨rfl, rfl, rfl, rfl, rfl⟩ rfl rfl rfl rfl rfl (by kernel_rfl) Tryd.func4 (by kernel_rfl)
    (of_decide_eq_true (by kernel_rfl)) (by unfold Func.isWrapper; first | (rw [if_pos (by decide +kernel)]; kernel_rfl) | (rw [if_neg (by decide +kernel)]; exact ⟨rfl, rfl⟩))
    (fun os started H enc _ => SetupStripes_lifted os started H enc)
/-- THE TIED CARD of SetupStripes. -/
theorem SetupStripesCard_holds : Rows.SetupStripesCardSaid :=
  Claim7.holds_tied_plain_at .later [] [.data] true Rows.setupStripesCard.stood.harness false
    SetupStripes_holds (fun _ h => by cases h) (by kernel_rfl) (fun _ h => by cases h) setupStripes_row_tie rfl ⟨rfl, rfl⟩ (by kernel_rfl) rfl
    (fun f fn hf hfn => by
      obtain rfl : f = 4 := Option.some.inj ((show Tryd.prog.funcNamed "seesaw/seesawlaw06.SetupStripes" = some 4 by kernel_rfl).symm.trans hf) |>.symm
      obtain rfl : fn = Tryd.f4 := (Option.some.inj (Tryd.func4.symm.trans hfn)).symm
      exact ⟨by kernel_rfl, fun j t ht => by
        rw [Tryd.params4] at ht
        have hm : t ∈ [3, 3, 3, 3] := by simpa using Array.mem_of_getElem? ht
        have hall : ([3, 3, 3, 3].all fun u => !Tryd.prog.wantsStandIn u) = true := by kernel_rfl
        exact (show Tryd.prog.wantsStandIn t = false by simpa using List.all_eq_true.1 hall t hm)⟩)
    (by kernel_rfl)
end Go.Proofs.YtnkdaehmdcpafaaDoor
