/-
  EventUnlike (promise P12.6): unlike events that may be have unlike texts; the same ones the same: for every input the call returns true, and each argument reads behind it as before; as its TIED CARD (the tables lie as the program's text lays them). Condition: the row's own (laid).
-/
import Derived.Test.YtjholjlmlglgnabDoorWt
namespace Go.Proofs.YtjholjlmlglgnabDoor
set_option maxRecDepth 100000
open Go.ChangeShapes Go.WideShapes Go.ChangeAt Go.RowKit Go.WideElems Go.WideMaps
set_option linter.unusedVariables false
/-- What Show tells of an event. -/
def shT (e : Ev) : ByteArray := if mayB e 6 32 32 = true then bsW (showF e) else ⟨#[]⟩
def shE (e : Ev) : Int := if mayB e 6 32 32 = true then 0 else 4
theorem showR_te (e : Ev) : showR e = .tuple #[.string (shT e), .int .i64 (shE e)] := by
  unfold showR shT shE
  by_cases h : mayB e 6 32 32 = true
  · rw [if_pos h, if_pos h, if_pos h]
  · rw [if_neg h, if_neg h, if_neg h]
theorem shE_zero {e : Ev} (h : shE e = 0) : mayB e 6 32 32 = true := by
  unfold shE at h
  by_cases h2 : mayB e 6 32 32 = true
  · exact h2
  · rw [if_neg h2] at h; omega
theorem shT_eql {d e : Ev} (h1 : shE d = 0) (h2 : shE e = 0) : ((shT d).toList == (shT e).toList) = decide (d = e) := by
  have h3 := shE_zero h1
  have h4 := shE_zero h2
  unfold shT
  rw [if_pos h3, if_pos h4, testW, bsW_list]
  by_cases h : d = e
  · simp [h]
  · have : showF d ≠ showF e := fun g => h (show_inj h3 h4 g)
    simp [h, this]
set_option maxHeartbeats 4000000 in
theorem EventUnlike_walk (d : Ev) (okd : EvOk d) (e : Ev) (ok : EvOk e) (w : World) (he : Ek w) :
    Calls Tryd.prog 3 #[evV d, evV e] w fun r w' => r = .returned (.bool true) ∧ Below w.heap.size w w' := by
  have HA : Hid (∀ w1, Below w.heap.size w w1 → Calls Tryd.prog 4 #[] w1 fun r w' => r = .returned (.bool true) ∧ Below w1.heap.size w1 w') := fun w1 h => awake_any w1 (he.below h)
  have HD : Hid (∀ w1, Below w.heap.size w w1 → Calls Tryd.prog 5 #[evV d] w1 fun r w' => r = .returned (.tuple #[.string (shT d), .int .i64 (shE d)]) ∧ Below w1.heap.size w1 w') := fun w1 h => showR_te d ▸ show_any d okd w1 (he.below h)
  have HE : Hid (∀ w1, Below w.heap.size w w1 → Calls Tryd.prog 5 #[evV e] w1 fun r w' => r = .returned (.tuple #[.string (shT e), .int .i64 (shE e)]) ∧ Below w1.heap.size w1 w') := fun w1 h => showR_te e ▸ show_any e ok w1 (he.below h)
  have HQ : Hid (shE d = 0 → shE e = 0 → ((shT d).toList == (shT e).toList) = decide (d = e)) := shT_eql
  obtain ⟨td, htd⟩ : ∃ t, t = shT d := ⟨_, rfl⟩
  obtain ⟨te, hte⟩ : ∃ t, t = shT e := ⟨_, rfl⟩
  obtain ⟨nd, hnd⟩ : ∃ t, t = shE d := ⟨_, rfl⟩
  obtain ⟨ne, hne⟩ : ∃ t, t = shE e := ⟨_, rfl⟩
  rw [← htd, ← hnd] at HD HQ
  rw [← hte, ← hne] at HE HQ
  clear he ok okd htd hte hnd hne
  obtain ⟨dk, dth, dtx, dpl, dv, dx, dwhy⟩ := d
  obtain ⟨kd, th, tx, pl, v, x, why⟩ := e
  unfold evV at HD HE ⊢
  simp only at HD HE ⊢
  go_enter Tryd.func3, Tryd.ntmps3
  go_wp2_with fail
  obtain ⟨W0, hW0⟩ : ∃ W0, W0 = (w.alloc (.cells #[.int .u8 dk, .int .i64 dth, .int .i64 dtx, .int .i64 dpl, .int .i64 dv, .int .i64 dx, .int .u8 dwhy] 23)).alloc (.cells #[.int .u8 kd, .int .i64 th, .int .i64 tx, .int .i64 pl, .int .i64 v, .int .i64 x, .int .u8 why] 23) := ⟨_, rfl⟩
  obtain ⟨g, hg⟩ : ∃ g, g = w.heap.size := ⟨_, rfl⟩
  obtain ⟨g2, hg2⟩ : ∃ g2, g2 = w.heap.size + 1 := ⟨_, rfl⟩
  have hr : W0.heap[g]? = some (.cells #[.int .u8 dk, .int .i64 dth, .int .i64 dtx, .int .i64 dpl, .int .i64 dv, .int .i64 dx, .int .u8 dwhy] 23 (0, 0)) := by rw [hW0, hg]; exact (heap_alloc_old _ _ (by simp)).trans (heap_alloc_new w _)
  have hr2 : W0.heap[g2]? = some (.cells #[.int .u8 kd, .int .i64 th, .int .i64 tx, .int .i64 pl, .int .i64 v, .int .i64 x, .int .u8 why] 23 (0, 0)) := by rw [hW0, hg2]; exact heap_alloc2_new w _ _
  have hb : Below w.heap.size w W0 := by rw [hW0]; exact ((Below.refl _ _).alloc (Nat.le_refl _) _).alloc (by simp) _
  have HR := Lib.hid hr
  have HR2 := Lib.hid hr2
  have HB0 := Lib.hid hb
  rw [← hW0, ← hg2, ← hg]
  have B0 : Hid (Below W0.heap.size W0 W0) := Below.refl _ _
  clear hW0 hg hg2 hr hr2 hb
  refine (HA.out W0 HB0.out).mono ?_
  rintro _ w1 ⟨rfl, b1⟩
  have B1 : Hid (Below W0.heap.size W0 w1) := B0.out.trans (b1.mono B0.out.size)
  clear b1 HA
  obtain ⟨x0, x1, x2, x3, x4, x5, x6⟩ := evat (row_stays HR.out B1.out)
  go_wp2_with fail
  refine (HD.out w1 (HB0.out.trans (B1.out.mono HB0.out.size))).mono ?_
  rintro _ w2 ⟨rfl, b2⟩
  have B2 : Hid (Below W0.heap.size W0 w2) := B1.out.trans (b2.mono B1.out.size)
  clear b2 x0 x1 x2 x3 x4 x5 x6 HD
  obtain ⟨y0, y1, y2, y3, y4, y5, y6⟩ := evat (row_stays HR2.out B2.out)
  go_wp2_with fail
  refine (HE.out w2 (HB0.out.trans (B2.out.mono HB0.out.size))).mono ?_
  rintro _ w3 ⟨rfl, b3⟩
  have B3 : Hid (Below W0.heap.size W0 w3) := B2.out.trans (b3.mono B2.out.size)
  clear b3 y0 y1 y2 y3 y4 y5 y6 HE
  obtain ⟨x0, x1, x2, x3, x4, x5, x6⟩ := evat (row_stays HR.out B3.out)
  obtain ⟨y0, y1, y2, y3, y4, y5, y6⟩ := evat (row_stays HR2.out B3.out)
  have HF : Hid (Below w.heap.size w w3) := HB0.out.trans (B3.out.mono HB0.out.size)
  by_cases c1 : nd = 0
  · by_cases c2 : ne = 0
    · have hq := HQ.out c1 c2
      subst c1 c2
      clear HQ
      by_cases hde : (⟨dk, dth, dtx, dpl, dv, dx, dwhy⟩ : Ev) = ⟨kd, th, tx, pl, v, x, why⟩
      · rw [decide_eq_true hde] at hq
        injection hde with h1 h2 h3 h4 h5 h6 h7
        subst h1 h2 h3 h4 h5 h6 h7
        go_wp2_with fail
        go_ret
        exact ⟨rfl, HF.out⟩
      · rw [decide_eq_false hde] at hq
        have HN : Hid (¬ (dk = kd ∧ dth = th ∧ dtx = tx ∧ dpl = pl ∧ dv = v ∧ dx = x ∧ dwhy = why)) := fun ⟨h1, h2, h3, h4, h5, h6, h7⟩ => hde (by rw [h1, h2, h3, h4, h5, h6, h7])
        clear hde
        go_wp2_with fail
        all_goals first | exact absurd ⟨by assumption, by assumption, by assumption, by assumption, by assumption, by assumption, by assumption⟩ HN.out | (go_ret; exact ⟨rfl, HF.out⟩)
    · clear HQ
      go_wp2_with fail
      go_ret
      exact ⟨rfl, HF.out⟩
  · clear HQ
    go_wp2_with fail
    go_ret
    exact ⟨rfl, HF.out⟩
theorem EventUnlike_laid : laidOutB Tryd.prog = true := by kernel_rfl
set_option maxRecDepth 100000 in
theorem EventUnlike_lifted (os : Os) (started : os.Started) (H : Type) (enc : TypeId × Value → H) :
    ReturnsInHanded {} Tryd.checked os 3 .any (fun w args => (Rows.eventUnlikeSpec.pre enc Tryd.prog Tryd.f3 [] false w args ∧ laidMetH Tryd.prog [("math/bits.deBruijn32tab", Rows.laid_math_bits_deBruijn32tab), ("math/bits.deBruijn64tab", Rows.laid_math_bits_deBruijn64tab), ("internal/strconv.uint64pow10", Rows.laid_internal_strconv_uint64pow10), ("strconv.ErrRange", Rows.laid_strconv_ErrRange), ("strconv.ErrSyntax", Rows.laid_strconv_ErrSyntax), ("seesaw/event.names", Rows.laid_seesaw_event_names)] w) ∧ sizedMet enc Tryd.prog Tryd.f3 (OpenSpec.ofChange Rows.eventUnlikeSpec) false w args)
      (Rows.eventUnlikeSpec.post enc Tryd.prog Tryd.f3 false true false false) := by
  refine returnsInHanded_of_change_and (C := Tryd.checked) (X := fun w _ => laidMetH Tryd.prog [("math/bits.deBruijn32tab", Rows.laid_math_bits_deBruijn32tab), ("math/bits.deBruijn64tab", Rows.laid_math_bits_deBruijn64tab), ("internal/strconv.uint64pow10", Rows.laid_internal_strconv_uint64pow10), ("strconv.ErrRange", Rows.laid_strconv_ErrRange), ("strconv.ErrSyntax", Rows.laid_strconv_ErrSyntax), ("seesaw/event.names", Rows.laid_seesaw_event_names)] w) (fun _ _ _ hh h => h.of_heap hh) lift_own started (by kernel_rfl) Tryd.func3
    (ChangeSpec.witness_shaped (enc := enc) (C := Tryd.checked) (os := os) (X := fun w _ => laidMetH Tryd.prog [("math/bits.deBruijn32tab", Rows.laid_math_bits_deBruijn32tab), ("math/bits.deBruijn64tab", Rows.laid_math_bits_deBruijn64tab), ("internal/strconv.uint64pow10", Rows.laid_internal_strconv_uint64pow10), ("strconv.ErrRange", Rows.laid_strconv_ErrRange), ("strconv.ErrSyntax", Rows.laid_strconv_ErrSyntax), ("seesaw/event.names", Rows.laid_seesaw_event_names)] w) false (World.doorLaid Tryd.prog 400 os) #[.agg #[.int .u8 0, .int .i64 0, .int .i64 0, .int .i64 0, .int .i64 0, .int .i64 0, .int .u8 0], .agg #[.int .u8 0, .int .i64 0, .int .i64 0, .int .i64 0, .int .i64 0, .int .i64 0, .int .u8 0]] 8 rfl (World.shaped_of_RefB (by kernel_rfl) (by kernel_rfl)) (by kernel_rfl) (by kernel_rfl) (by kernel_rfl) (door_metE os _)) ?_
  intro W base args ds gs before hval0 hW _ _ hL _
  have hval : ∀ (j : Nat) t v, Tryd.f3.params[j]? = some t → args[j]? = some v → Value.okWide Tryd.prog W .any base t v := hval0
  have hW' := hW
  obtain ⟨p, q, hA0, hV, rfl, hfz, hnd⟩ := hW
  have hA : DataW.TrodAll enc Tryd.prog W 0 (fun _ => true) true Tryd.f3.params.toList args.toList ds p := hA0
  rw [Tryd.params3] at hA hval
  obtain ⟨v0, vs0, d0, ds0, p0, q0, hargs, rfl, rfl, h0, r0⟩ := trodAll_cons hA
  obtain ⟨v1, vs1, d1, ds1, p1, q1, rfl, rfl, rfl, h1, r1⟩ := trodAll_cons r0
  obtain ⟨rfl, rfl, rfl⟩ := trodAll_nil r1
  obtain rfl : args = #[v0, v1] := by cases args; simp_all
  obtain ⟨rfl, rfl⟩ := trodVars_none hV
  obtain ⟨e0, hE0, rfl⟩ := open_event (hval 0 23 v0 rfl rfl) h0
  obtain ⟨e1, hE1, rfl⟩ := open_event (hval 1 23 v1 rfl rfl) h1
  clear hA0 hval0
  simp only [List.append_nil] at hW'
  try simp only [List.nil_append] at hW'
  refine (EventUnlike_walk e0 hE0 e1 hE1 W (ek_of_laidE hL)).mono fun e W' ⟨he, hg⟩ => ?_
  subst he
  exact ⟨_, rfl, lift_post (pv := []) hW' (fun _ _ _ => (trodAll_cons_mk (shut_bool Tryd.underlying4 _) trodAll_mk0)) (fun sp hsp => (trodAll_cons_mk (WideElems.Trod_stays EventUnlike_laid (by kernel_rfl) (of_decide_eq_true (by kernel_rfl)) h0 (fun x hx => hg.same (hW'.lt x (by simp [hx]))) (fun x hx => hsp x (by simp [hx]))) (trodAll_cons_mk (WideElems.Trod_stays EventUnlike_laid (by kernel_rfl) (of_decide_eq_true (by kernel_rfl)) h1 (fun x hx => hg.same (hW'.lt x (by simp [hx]))) (fun x hx => hsp x (by simp [hx]))) trodAll_mk0))) (fun _ _ => rfl) (by simp)
    hg (ok_one (by kernel_rfl) rfl (okWide_bool_mk Tryd.underlying4 _))⟩
/-- THE STATEMENT of EventUnlike: for every input the call returns true, and each argument reads behind it as before. -/
theorem EventUnlike_holds : Rows.EventUnlikeSaid :=
  OpenClaim.holds_of_wide 3 Tryd.f3 rfl rfl rfl rfl rfl rfl rfl ⟨rfl, rfl, rfl, rfl, rfl⟩ rfl rfl rfl rfl rfl (by kernel_rfl) Tryd.func3 (by kernel_rfl)
    (of_decide_eq_true (by kernel_rfl)) (by unfold Func.isWrapper; first | (rw [if_pos (by decide +kernel)]; kernel_rfl) | (rw [if_neg (by decide +kernel)]; exact ⟨rfl, rfl⟩))
    (fun os started H enc _ => EventUnlike_lifted os started H enc)
/-- THE TIED CARD of EventUnlike. -/
theorem EventUnlikeCard_holds : Rows.EventUnlikeCardSaid :=
  Claim7.holds_tied_plain_at .later [] [.data, .data, .data, .sentinel, .sentinel, .data] true Rows.eventUnlikeCard.stood.harness true
    EventUnlike_holds (fun _ h => by cases h) (by kernel_rfl) (fun _ h => by cases h) eventUnlike_row_tie rfl ⟨rfl, rfl⟩ (by kernel_rfl) rfl
    (fun f fn hf hfn => by
      obtain rfl : f = 3 := Option.some.inj ((show Tryd.prog.funcNamed "seesaw/seesawlaw12.EventUnlike" = some 3 by kernel_rfl).symm.trans hf) |>.symm
      obtain rfl : fn = Tryd.f3 := (Option.some.inj (Tryd.func3.symm.trans hfn)).symm
      exact ⟨by kernel_rfl, fun j t ht => by
        rw [Tryd.params3] at ht
        have hm : t ∈ [23, 23] := by simpa using Array.mem_of_getElem? ht
        have hall : ([23, 23].all fun u => !Tryd.prog.wantsStandIn u) = true := by kernel_rfl
        exact (show Tryd.prog.wantsStandIn t = false by simpa using List.all_eq_true.1 hall t hm)⟩)
    (by kernel_rfl)
end Go.Proofs.YtjholjlmlglgnabDoor
