/-
  ReadsetLooked: for every input the call returns true, and each argument reads behind it as before. No condition. (What may be looked at is stale for nobody; what is stale may not be looked at; with a greater RV what may be looked at may still be.)
-/
import Derived.Test.YtdlikmekcgdmkaaGh
import Derived.Test.YtdlikmekcgdmkaaLift
namespace Go.Proofs.Ytdlikmekcgdmkaa
set_option maxRecDepth 100000
open Go.RowKit Go.Deep
open Go.ChangeShapes Go.WideShapes
set_option linter.unusedVariables false
theorem mod1000 (x : Int) : wrap64 ((IntKind.u64.wrap x).tmod 1000) = x % 18446744073709551616 % 1000 := by
  have e2 : IntKind.u64.wrap x = x % 18446744073709551616 := by simp [IntKind.wrap, IntKind.bits, IntKind.signed]
  rw [e2, Int.tmod_eq_emod_of_nonneg (Int.emod_nonneg _ (by omega))]
  unfold wrap64
  omega
theorem looked_cases (r r2 o v me : Int) (h : r ≤ r2) : (lookF r o v = 0 ∧ staleF r o v me = false ∧ lookF r2 o v = 0 ∧ o = -1 ∧ v ≤ r) ∨ (lookF r o v = 2 ∧ staleF r o v me = true ∧ o = -1 ∧ ¬ v ≤ r) ∨ (lookF r o v = 1 ∧ o ≠ -1) := by
  unfold lookF staleF
  by_cases h1 : o = -1
  · by_cases h2 : v ≤ r
    · exact .inl ⟨by rw [if_neg (by omega), if_neg (by omega)], by simp [h1, h2], by rw [if_neg (by omega), if_neg (by omega)], h1, h2⟩
    · exact .inr (.inl ⟨by rw [if_neg (by omega), if_pos (by omega)], by simp; right; omega, h1, h2⟩)
  · exact .inr (.inr ⟨by rw [if_pos h1], h1⟩)
set_option maxHeartbeats 8000000 in
theorem ReadsetLooked_walk (rv : Int) (h0 : (Lit.int .i64 rv).wf = true) (more : Int) (h1 : (Lit.int .i64 more).wf = true) (o : Int) (h2 : (Lit.int .i64 o).wf = true) (v : Int) (h3 : (Lit.int .i64 v).wf = true) (me : Int) (h4 : (Lit.int .i64 me).wf = true) (w : World) :
    Calls Try.prog 6 #[.int .i64 rv, .int .i64 more, .int .i64 o, .int .i64 v, .int .i64 me] w fun e w' => e = .returned (.bool true) ∧ Below w.heap.size w w' := by
  have HMD := Lib.hid (fun w => made_nil rv w)
  have r0 := rvM_ge rv
  have r1 := rvM_le rv
  obtain ⟨r, hr⟩ : ∃ r, r = rvM rv := ⟨_, rfl⟩
  rw [← hr] at HMD r0 r1
  have hmm := mod1000 more
  obtain ⟨m, hm⟩ : ∃ m, m = more % 18446744073709551616 % 1000 := ⟨_, rfl⟩
  rw [← hm] at hmm
  have m0 : 0 ≤ m := by omega
  have m1 : m < 1000 := by omega
  clear h0 h1 h2 h3 h4 hr hm
  go_enter Try.func6, Try.ntmps6
  go_wp2_with fail
  refine (awake10_any _).mono ?_
  rintro e w1 ⟨rfl, b1⟩
  go_wp2_with fail
  refine (HMD.out _).mono ?_
  rintro e w2 ⟨g, rfl, hS, hg, b2⟩
  have B2 := Lib.hid (b1.trans (b2.mono b1.size))
  have HG : Hid (w.heap.size ≤ g) := by have := b1.size; show _ ≤ _; omega
  have HR := Lib.hid (rv_any hS)
  have HS := Lib.hid hS
  clear b1 b2 hS hg HMD
  go_wp2_with fail
  refine HR.out.mono ?_
  rintro e w' ⟨rfl, rfl⟩
  by_cases hcm : 1099511627776 < r + m
  · go_wp2_with fail
    · have hle : r ≤ 1099511627776 := by omega
      refine (new_yes 1099511627776 32 (by omega) (by omega) (by omega) (by omega) _).mono ?_
      rintro e w3 ⟨rfl, hS3, b3, z3⟩
      obtain ⟨g3, hg3⟩ : ∃ g, g = w2.heap.size := ⟨_, rfl⟩
      rw [← hg3] at hS3 ⊢
      have B3 := Lib.hid (B2.out.trans (b3.mono B2.out.size))
      have HS2 := Lib.hid (HS.out.below b3)
      have HS3 := Lib.hid hS3
      clear hS3 b3 z3 hg3 HS B2 HR
      have HL := Lib.hid (look_any HS2.out o v)
      have HT := Lib.hid (stale_any HS2.out o v me)
      have HL3 := Lib.hid (look_any HS3.out o v)
      have HV := Lib.hid (rv_any HS2.out)
      rcases looked_cases r 1099511627776 o v me hle with ⟨e1, e2, e3, e4, e5⟩ | ⟨e1, e2, e4, e5⟩ | ⟨e1, e4⟩
      · rw [e1] at HL
        rw [e2] at HT
        rw [e3] at HL3
        have i1 : (o == -1) = true := beq_iff_eq.2 e4
        have i2 : decide (v ≤ r) = true := decide_eq_true e5
        clear e1 e2 e3 e4 e5
        go_wp2_with fail
        refine HL.out.mono ?_
        rintro e w' ⟨rfl, rfl⟩
        go_wp2_with fail
        refine HT.out.mono ?_
        rintro e w' ⟨rfl, rfl⟩
        go_wp2_with fail
        refine HL3.out.mono ?_
        rintro e w' ⟨rfl, rfl⟩
        go_wp2_with fail
        refine HV.out.mono ?_
        rintro e w' ⟨rfl, rfl⟩
        go_wp2_with fail
        refine HT.out.mono ?_
        rintro e w' ⟨rfl, rfl⟩
        go_wp2_with fail
        go_ret
        exact ⟨rfl, B3.out⟩
      · rw [e1] at HL
        rw [e2] at HT
        have i1 : (o == -1) = true := beq_iff_eq.2 e4
        have i2 : decide (v ≤ r) = false := decide_eq_false e5
        clear e1 e2 e4 e5 HL3
        go_wp2_with fail
        refine HL.out.mono ?_
        rintro e w' ⟨rfl, rfl⟩
        go_wp2_with fail
        refine HV.out.mono ?_
        rintro e w' ⟨rfl, rfl⟩
        go_wp2_with fail
        refine HT.out.mono ?_
        rintro e w' ⟨rfl, rfl⟩
        go_wp2_with fail
        go_ret
        exact ⟨rfl, B3.out⟩
      · rw [e1] at HL
        have i1 : (o == -1) = false := beq_eq_false_iff_ne.2 e4
        obtain ⟨t, ht⟩ : ∃ t, t = staleF r o v me := ⟨_, rfl⟩
        rw [← ht] at HT
        clear e1 e4 HL3 HV ht
        cases t with
        | true =>
          go_wp2_with fail
          refine HL.out.mono ?_
          rintro e w' ⟨rfl, rfl⟩
          go_wp2_with fail
          refine HT.out.mono ?_
          rintro e w' ⟨rfl, rfl⟩
          go_wp2_with fail
          go_ret
          exact ⟨rfl, B3.out⟩
        | false =>
          go_wp2_with fail
          refine HL.out.mono ?_
          rintro e w' ⟨rfl, rfl⟩
          go_wp2_with fail
          refine HT.out.mono ?_
          rintro e w' ⟨rfl, rfl⟩
          go_wp2_with fail
          go_ret
          exact ⟨rfl, B3.out⟩
  go_wp2_with fail
  · have hle : r ≤ r + m := by omega
    refine (new_yes (r + m) 32 (by omega) (by omega) (by omega) (by omega) _).mono ?_
    rintro e w3 ⟨rfl, hS3, b3, z3⟩
    obtain ⟨g3, hg3⟩ : ∃ g, g = w2.heap.size := ⟨_, rfl⟩
    rw [← hg3] at hS3 ⊢
    have B3 := Lib.hid (B2.out.trans (b3.mono B2.out.size))
    have HS2 := Lib.hid (HS.out.below b3)
    have HS3 := Lib.hid hS3
    clear hS3 b3 z3 hg3 HS B2 HR
    have HL := Lib.hid (look_any HS2.out o v)
    have HT := Lib.hid (stale_any HS2.out o v me)
    have HL3 := Lib.hid (look_any HS3.out o v)
    have HV := Lib.hid (rv_any HS2.out)
    rcases looked_cases r (r + m) o v me hle with ⟨e1, e2, e3, e4, e5⟩ | ⟨e1, e2, e4, e5⟩ | ⟨e1, e4⟩
    · rw [e1] at HL
      rw [e2] at HT
      rw [e3] at HL3
      have i1 : (o == -1) = true := beq_iff_eq.2 e4
      have i2 : decide (v ≤ r) = true := decide_eq_true e5
      clear e1 e2 e3 e4 e5
      go_wp2_with fail
      refine HL.out.mono ?_
      rintro e w' ⟨rfl, rfl⟩
      go_wp2_with fail
      refine HT.out.mono ?_
      rintro e w' ⟨rfl, rfl⟩
      go_wp2_with fail
      refine HL3.out.mono ?_
      rintro e w' ⟨rfl, rfl⟩
      go_wp2_with fail
      refine HV.out.mono ?_
      rintro e w' ⟨rfl, rfl⟩
      go_wp2_with fail
      refine HT.out.mono ?_
      rintro e w' ⟨rfl, rfl⟩
      go_wp2_with fail
      go_ret
      exact ⟨rfl, B3.out⟩
    · rw [e1] at HL
      rw [e2] at HT
      have i1 : (o == -1) = true := beq_iff_eq.2 e4
      have i2 : decide (v ≤ r) = false := decide_eq_false e5
      clear e1 e2 e4 e5 HL3
      go_wp2_with fail
      refine HL.out.mono ?_
      rintro e w' ⟨rfl, rfl⟩
      go_wp2_with fail
      refine HV.out.mono ?_
      rintro e w' ⟨rfl, rfl⟩
      go_wp2_with fail
      refine HT.out.mono ?_
      rintro e w' ⟨rfl, rfl⟩
      go_wp2_with fail
      go_ret
      exact ⟨rfl, B3.out⟩
    · rw [e1] at HL
      have i1 : (o == -1) = false := beq_eq_false_iff_ne.2 e4
      obtain ⟨t, ht⟩ : ∃ t, t = staleF r o v me := ⟨_, rfl⟩
      rw [← ht] at HT
      clear e1 e4 HL3 HV ht
      cases t with
      | true =>
        go_wp2_with fail
        refine HL.out.mono ?_
        rintro e w' ⟨rfl, rfl⟩
        go_wp2_with fail
        refine HT.out.mono ?_
        rintro e w' ⟨rfl, rfl⟩
        go_wp2_with fail
        go_ret
        exact ⟨rfl, B3.out⟩
      | false =>
        go_wp2_with fail
        refine HL.out.mono ?_
        rintro e w' ⟨rfl, rfl⟩
        go_wp2_with fail
        refine HT.out.mono ?_
        rintro e w' ⟨rfl, rfl⟩
        go_wp2_with fail
        go_ret
        exact ⟨rfl, B3.out⟩
theorem ReadsetLooked_laid : laidOutB Try.prog = true := by kernel_rfl
set_option maxRecDepth 100000 in
theorem ReadsetLooked_lifted (os : Os) (started : os.Started) (H : Type) (enc : TypeId × Value → H) :
    ReturnsInHanded {} Try.checked os 6 .any (Rows.readsetLookedSpec.pre6 enc Try.prog Try.f6 Rows.readsetLookedRow.domain false) (Rows.readsetLookedSpec.post enc Try.prog Try.f6 false true false false) := by
  refine returnsInHanded_of_change (C := Try.checked) lift_own started (by kernel_rfl) Try.func6
    (ChangeSpec.witness6 (enc := enc) (C := Try.checked) false ⟨#[], #[.int .i64 0, .int .i64 0, .int .i64 0, .int .i64 0, .int .i64 0], []⟩ 8 (by kernel_rfl) (by kernel_rfl) (by kernel_rfl) (by kernel_rfl)) ?_
  intro W base args ds gs before hval0 hW hcnd _
  have hval : ∀ (j : Nat) t v, Try.f6.params[j]? = some t → args[j]? = some v → Value.okWide Try.prog W .any base t v := hval0
  have hW' := hW
  obtain ⟨p, q, hA0, hV, rfl, hfz, hnd⟩ := hW
  have hA : DataW.TrodAll enc Try.prog W 0 (fun _ => true) true Try.f6.params.toList args.toList ds p := hA0
  rw [Try.params6] at hA hval
  obtain ⟨v0, vs0, d0, ds0, p0, q0, hargs, rfl, rfl, h0, r0⟩ := trodAll_cons hA
  obtain ⟨v1, vs1, d1, ds1, p1, q1, rfl, rfl, rfl, h1, r1⟩ := trodAll_cons r0
  obtain ⟨v2, vs2, d2, ds2, p2, q2, rfl, rfl, rfl, h2, r2⟩ := trodAll_cons r1
  obtain ⟨v3, vs3, d3, ds3, p3, q3, rfl, rfl, rfl, h3, r3⟩ := trodAll_cons r2
  obtain ⟨v4, vs4, d4, ds4, p4, q4, rfl, rfl, rfl, h4, r4⟩ := trodAll_cons r3
  obtain ⟨rfl, rfl, rfl⟩ := trodAll_nil r4
  obtain rfl : args = #[v0, v1, v2, v3, v4] := by cases args; simp_all
  obtain ⟨rfl, rfl⟩ := trodVars_none hV
  obtain ⟨a0, rfl, rfl, rfl, w0⟩ := open_int Try.underlying3 (hval 0 3 v0 rfl rfl) h0
  obtain ⟨a1, rfl, rfl, rfl, w1⟩ := open_int Try.underlying3 (hval 1 3 v1 rfl rfl) h1
  obtain ⟨a2, rfl, rfl, rfl, w2⟩ := open_int Try.underlying3 (hval 2 3 v2 rfl rfl) h2
  obtain ⟨a3, rfl, rfl, rfl, w3⟩ := open_int Try.underlying3 (hval 3 3 v3 rfl rfl) h3
  obtain ⟨a4, rfl, rfl, rfl, w4⟩ := open_int Try.underlying3 (hval 4 3 v4 rfl rfl) h4
  clear hA0 hval0
  simp only [List.append_nil] at hW'
  refine (ReadsetLooked_walk a0 w0 a1 w1 a2 w2 a3 w3 a4 w4 W).mono fun e W' ⟨he, hg⟩ => ?_
  subst he
  exact ⟨_, rfl, lift_post (pv := []) hW' (fun _ _ _ => (trodAll_cons_mk (shut_bool Try.underlying4 _) trodAll_mk0)) (fun sp hsp => (trodAll_cons_mk (shut_int Try.underlying3 w0) (trodAll_cons_mk (shut_int Try.underlying3 w1) (trodAll_cons_mk (shut_int Try.underlying3 w2) (trodAll_cons_mk (shut_int Try.underlying3 w3) (trodAll_cons_mk (shut_int Try.underlying3 w4) trodAll_mk0)))))) (fun _ _ => rfl) (by simp)
    hg (ok_one (by kernel_rfl) rfl (okWide_bool_mk Try.underlying4 _))⟩

/-- THE STATEMENT of ReadsetLooked: for every input the call returns true, and each argument reads behind it as before. -/
theorem ReadsetLooked_holds : Rows.ReadsetLookedSaid :=
  OpenClaim.holds_of_wide 6 Try.f6 rfl rfl rfl rfl rfl rfl rfl ⟨rfl, rfl, rfl, rfl, rfl⟩ rfl rfl rfl rfl rfl (by kernel_rfl) Try.func6 (by kernel_rfl)
    (of_decide_eq_true (by kernel_rfl)) (by unfold Func.isWrapper; first | (rw [if_pos (by decide +kernel)]; kernel_rfl) | (rw [if_neg (by decide +kernel)]; exact ⟨rfl, rfl⟩))
    (fun os started H enc _ => ReadsetLooked_lifted os started H enc)
end Go.Proofs.Ytdlikmekcgdmkaa
