/-
  EventBack (promise P12.3, the stage's theorem): Parse of Show is the event, Show of Parse the text; what may not be is not shown: for every input the call returns true, and each argument reads behind it as before; as its TIED CARD (the tables lie as the program's text lays them). Condition: the row's own (laid).
-/
import Derived.Test.YtjholjlmlglgnaaDoorWt
import Derived.ChangeMaps5
namespace Go.Proofs.YtjholjlmlglgnaaDoor
set_option maxRecDepth 100000
open Go.ChangeShapes Go.WideShapes Go.ChangeAt Go.RowKit Go.WideElems Go.WideMaps Go.ChangeMaps
set_option linter.unusedVariables false
theorem showR_no {e : Ev} (h : mayB e 6 32 32 = false) : showR e = .tuple #[.string ⟨#[]⟩, .int .i64 4] := by unfold showR; rw [if_neg (by simp [h])]
theorem may_evok {e : Ev} (h : mayB e 6 32 32 = true) : EvOk e := by
  have hh := (may_iff _ _ _ _).1 h
  have h1 := may_i64 h
  have h0 := hh.2.1
  have h2 := hh.2.2
  have a0 := h1 0
  have a1 := h1 1
  have a2 := h1 2
  have a3 := h1 3
  simp only [numC] at a0 a1 a2 a3
  have hk : 1 ≤ e.kd ∧ e.kd ≤ 13 := by
    unfold MayK at h2
    rcases h2 with h | h | h | h | h | h | h | h <;> omega
  have hw : 0 ≤ e.why ∧ e.why ≤ 255 := by
    unfold MayK at h2
    rcases h2 with h | h | h | h | h | h | h | h <;> omega
  simp at a0 a1 a2 a3
  exact ⟨by omega, by omega, hw.1, hw.2, by omega, by omega, a0.1, a0.2, a1.1, a1.2, a2.1, a2.2, a3.1, a3.2⟩
theorem eback_long (e : Ev) (s : ByteArray) (hs : 300 < s.size) (h2 : s.size ≤ maxLen) (w : World) (he : Ek w) :
    Calls Tryd.prog 6 #[evV e, .string s] w fun r w' => r = .returned (.bool true) ∧ Below w.heap.size w w' := by
  have HA : Hid (∀ w1, Below w.heap.size w w1 → Calls Tryd.prog 9 #[] w1 fun r w' => r = .returned (.bool true) ∧ Below w1.heap.size w1 w') := fun w1 h => awake_any w1 (he.below h)
  have i1 : (300 : Int) < (s.size : Int) := by omega
  clear he hs
  obtain ⟨kd, th, tx, pl, v, x, why⟩ := e
  unfold evV
  simp only
  go_enter Tryd.func6, Tryd.ntmps6
  go_wp2_with fail
  have hb : Below w.heap.size w (w.alloc (.cells #[.int .u8 kd, .int .i64 th, .int .i64 tx, .int .i64 pl, .int .i64 v, .int .i64 x, .int .u8 why] 23)) := (Below.refl _ _).alloc (Nat.le_refl _) _
  refine (HA.out _ hb).mono ?_
  rintro _ w1 ⟨rfl, b1⟩
  have B1 : Hid (Below w.heap.size w w1) := hb.trans (b1.mono hb.size)
  clear b1 hb HA
  go_wp2_with fail
  go_ret
  exact ⟨rfl, B1.out⟩
set_option maxHeartbeats 4000000 in
theorem eback_short (e : Ev) (ok : EvOk e) (s : ByteArray) (hs : s.size ≤ 300) (w : World) (he : Ek w) :
    Calls Tryd.prog 6 #[evV e, .string s] w fun r w' => r = .returned (.bool true) ∧ Below w.heap.size w w' := by
  have HA : Hid (∀ w1, Below w.heap.size w w1 → Calls Tryd.prog 9 #[] w1 fun r w' => r = .returned (.bool true) ∧ Below w1.heap.size w1 w') := fun w1 h => awake_any w1 (he.below h)
  have HM : Hid (∀ (b : Bool) w1, mayB e 6 32 32 = b → Below w.heap.size w w1 → Calls Tryd.prog 14 #[evV e, .int .i64 6, .int .i64 32, .int .i64 32] w1 fun r w' => r = .returned (.bool b) ∧ Below w1.heap.size w1 w') := fun b w1 hb h => hb ▸ may_any e ok 6 32 32 w1 (he.below h)
  have HW : Hid (∀ (v : Value) w1, showR e = v → Below w.heap.size w w1 → Calls Tryd.prog 18 #[evV e] w1 fun r w' => r = .returned v ∧ Below w1.heap.size w1 w') := fun v w1 hv h => hv ▸ show_any e ok w1 (he.below h)
  have HP : Hid (∀ (t : ByteArray) (v : Value) w1, t.size ≤ 281474976710656 → parseR t.data.toList = v → Below w.heap.size w w1 → Calls Tryd.prog 20 #[.string t] w1 fun r w' => r = .returned v ∧ Below w1.heap.size w1 w') := fun t v w1 ht hv h => hv ▸ parse_any t ht w1 (he.below h)
  have HD : Hid (∀ (d : Ev) (t : ByteArray) w1, mayB d 6 32 32 = true → showF d = t.data.toList → Below w.heap.size w w1 → Calls Tryd.prog 18 #[evV d] w1 fun r w' => r = .returned (.tuple #[.string t, .int .i64 0]) ∧ Below w1.heap.size w1 w') := fun d t w1 hd ht h => by
    have h1 := show_any d (may_evok hd) w1 (he.below h)
    rw [showR_yes _ hd ht, bsW_of] at h1
    exact h1
  have HS := Lib.hid (parse_cases s.data.toList)
  have i1 : (s.size : Int) ≤ 300 := by omega
  have HZ : Hid (s.size ≤ 281474976710656) := by show s.size ≤ _; omega
  clear he
  obtain ⟨m, hm⟩ : ∃ b, mayB e 6 32 32 = b := ⟨_, rfl⟩
  have HB := Lib.hid hm
  have HE := Lib.hid (rfl : e = e)
  obtain ⟨kd, th, tx, pl, v, x, why⟩ := e
  unfold evV at HM HW HD ⊢
  simp only at HM HW HD ⊢
  clear hm ok hs
  go_enter Tryd.func6, Tryd.ntmps6
  go_wp2_with fail
  obtain ⟨W0, hW0⟩ : ∃ W0, W0 = w.alloc (.cells #[.int .u8 kd, .int .i64 th, .int .i64 tx, .int .i64 pl, .int .i64 v, .int .i64 x, .int .u8 why] 23) := ⟨_, rfl⟩
  obtain ⟨g, hg⟩ : ∃ g, g = w.heap.size := ⟨_, rfl⟩
  have hr : W0.heap[g]? = some (.cells #[.int .u8 kd, .int .i64 th, .int .i64 tx, .int .i64 pl, .int .i64 v, .int .i64 x, .int .u8 why] 23 (0, 0)) := by rw [hW0, hg]; exact heap_alloc_new w _
  have hb : Below w.heap.size w W0 := by rw [hW0]; exact (Below.refl _ _).alloc (Nat.le_refl _) _
  have HR := Lib.hid hr
  have HB0 := Lib.hid hb
  rw [← hW0, ← hg]
  have B0 : Hid (Below W0.heap.size W0 W0) := Below.refl _ _
  clear hW0 hg hr hb
  refine (HA.out W0 HB0.out).mono ?_
  rintro _ w1 ⟨rfl, b1⟩
  have B1 : Hid (Below W0.heap.size W0 w1) := B0.out.trans (b1.mono B0.out.size)
  clear b1 HA
  obtain ⟨x0, x1, x2, x3, x4, x5, x6⟩ := evat (row_stays HR.out B1.out)
  cases m with
  | false =>
    go_wp2_with fail
    refine (HW.out (.tuple #[.string ⟨#[]⟩, .int .i64 4]) w1 (showR_no HB.out) (HB0.out.trans (B1.out.mono HB0.out.size))).mono ?_
    rintro _ w2 ⟨rfl, b2⟩
    have B2 : Hid (Below W0.heap.size W0 w2) := B1.out.trans (b2.mono B1.out.size)
    clear b2 x0 x1 x2 x3 x4 x5 x6
    obtain ⟨x0, x1, x2, x3, x4, x5, x6⟩ := evat (row_stays HR.out B2.out)
    go_wp2_with fail
    refine (HM.out false w2 HB.out (HB0.out.trans (B2.out.mono HB0.out.size))).mono ?_
    rintro _ w3 ⟨rfl, b3⟩
    have B3 : Hid (Below W0.heap.size W0 w3) := B2.out.trans (b3.mono B2.out.size)
    clear b3 x0 x1 x2 x3 x4 x5 x6
    obtain ⟨x0, x1, x2, x3, x4, x5, x6⟩ := evat (row_stays HR.out B3.out)
    go_wp2_with fail
    rcases HS.out with ⟨d, hd1, hd2, hd3⟩ | ⟨hd1, hd3⟩
    · obtain ⟨dk, dth, dtx, dpl, dv, dx, dwhy⟩ := d
      have HD2 := Lib.hid (HD.out _ s · hd1 hd2)
      have h3 := HP.out s _ w3 HZ.out (show parseR s.data.toList = .tuple #[.agg #[.int .u8 dk, .int .i64 dth, .int .i64 dtx, .int .i64 dpl, .int .i64 dv, .int .i64 dx, .int .u8 dwhy], .int .i64 0] by unfold parseR; rw [hd3]; rfl) (HB0.out.trans (B3.out.mono HB0.out.size))
      simp only at HD2
      clear HS HD hd1 hd2 hd3 HP HM HW HE HB x0 x1 x2 x3 x4 x5 x6
      refine h3.mono ?_
      rintro _ w7 ⟨rfl, b7⟩
      have B7 : Hid (Below W0.heap.size W0 w7) := B3.out.trans (b7.mono B3.out.size)
      clear b7 h3
      go_wp2_with fail
      have hb : Below W0.heap.size W0 (w7.alloc (.cells #[.int .u8 dk, .int .i64 dth, .int .i64 dtx, .int .i64 dpl, .int .i64 dv, .int .i64 dx, .int .u8 dwhy] 23)) := B7.out.alloc B7.out.size _
      refine (HD2.out _ (HB0.out.trans (hb.mono HB0.out.size))).mono ?_
      rintro _ w8 ⟨rfl, b8⟩
      have B8 : Hid (Below W0.heap.size W0 w8) := hb.trans (b8.mono hb.size)
      clear b8 hb
      go_wp2_with fail
      go_ret
      exact ⟨rfl, HB0.out.trans (B8.out.mono HB0.out.size)⟩
    · have h3 := HP.out s _ w3 HZ.out (show parseR s.data.toList = .tuple #[.agg #[.int .u8 0, .int .i64 0, .int .i64 0, .int .i64 0, .int .i64 0, .int .i64 0, .int .u8 0], .int .i64 4] by unfold parseR; rw [hd3]; rfl) (HB0.out.trans (B3.out.mono HB0.out.size))
      clear HS HD hd1 hd3 HP HM HW HE HB x0 x1 x2 x3 x4 x5 x6
      refine h3.mono ?_
      rintro _ w7 ⟨rfl, b7⟩
      have B7 : Hid (Below W0.heap.size W0 w7) := B3.out.trans (b7.mono B3.out.size)
      clear b7 h3
      go_wp2_with fail
      go_ret
      exact ⟨rfl, HB0.out.trans ((B7.out.alloc B7.out.size _).mono HB0.out.size)⟩
  | true =>
    go_wp2_with fail
    obtain ⟨t, ht⟩ : ∃ t, t = bsW (showF ⟨kd, th, tx, pl, v, x, why⟩) := ⟨_, rfl⟩
    have HT : Hid (t.size ≤ 281474976710656 ∧ t.data.toList = showF ⟨kd, th, tx, pl, v, x, why⟩) := by
      have hl := show_len HB.out
      show _ ∧ _
      rw [ht, bsW_size, bsW_list]
      exact ⟨by omega, rfl⟩
    refine (HW.out (.tuple #[.string t, .int .i64 0]) w1 (by rw [ht]; exact showR_yes _ HB.out rfl) (HB0.out.trans (B1.out.mono HB0.out.size))).mono ?_
    clear ht
    rintro _ w2 ⟨rfl, b2⟩
    have B2 : Hid (Below W0.heap.size W0 w2) := B1.out.trans (b2.mono B1.out.size)
    clear b2 x0 x1 x2 x3 x4 x5 x6
    obtain ⟨x0, x1, x2, x3, x4, x5, x6⟩ := evat (row_stays HR.out B2.out)
    go_wp2_with fail
    refine (HM.out true w2 HB.out (HB0.out.trans (B2.out.mono HB0.out.size))).mono ?_
    rintro _ w3 ⟨rfl, b3⟩
    have B3 : Hid (Below W0.heap.size W0 w3) := B2.out.trans (b3.mono B2.out.size)
    clear b3 x0 x1 x2 x3 x4 x5 x6
    obtain ⟨x0, x1, x2, x3, x4, x5, x6⟩ := evat (row_stays HR.out B3.out)
    go_wp2_with fail
    refine (HP.out t (.tuple #[.agg #[.int .u8 kd, .int .i64 th, .int .i64 tx, .int .i64 pl, .int .i64 v, .int .i64 x, .int .u8 why], .int .i64 0]) w3 HT.out.1 (by unfold parseR; rw [HT.out.2, parse_show HB.out]; rfl) (HB0.out.trans (B3.out.mono HB0.out.size))).mono ?_
    rintro _ w4 ⟨rfl, b4⟩
    have B4 : Hid (Below W0.heap.size W0 w4) := B3.out.trans (b4.mono B3.out.size)
    clear b4 x0 x1 x2 x3 x4 x5 x6
    obtain ⟨x0, x1, x2, x3, x4, x5, x6⟩ := evat (row_stays HR.out B4.out)
    have l4 : g < w4.heap.size := there_blockW x0
    go_wp2_with fail
    obtain ⟨w5, hw5⟩ : ∃ w5, w5 = w4.alloc (.cells #[.int .u8 kd, .int .i64 th, .int .i64 tx, .int .i64 pl, .int .i64 v, .int .i64 x, .int .u8 why] 23) := ⟨_, rfl⟩
    rw [← hw5]
    have B5 : Hid (Below W0.heap.size W0 w5) := by rw [hw5]; exact B4.out.alloc B4.out.size _
    clear hw5
    rcases HS.out with ⟨d, hd1, hd2, hd3⟩ | ⟨hd1, hd3⟩
    · obtain ⟨dk, dth, dtx, dpl, dv, dx, dwhy⟩ := d
      have HD2 := Lib.hid (HD.out _ s · hd1 hd2)
      have h3 := HP.out s _ w5 HZ.out (show parseR s.data.toList = .tuple #[.agg #[.int .u8 dk, .int .i64 dth, .int .i64 dtx, .int .i64 dpl, .int .i64 dv, .int .i64 dx, .int .u8 dwhy], .int .i64 0] by unfold parseR; rw [hd3]; rfl) (HB0.out.trans (B5.out.mono HB0.out.size))
      simp only at HD2
      clear HS HD hd1 hd2 hd3 HP HM HW HE HB x0 x1 x2 x3 x4 x5 x6
      refine h3.mono ?_
      rintro _ w7 ⟨rfl, b7⟩
      have B7 : Hid (Below W0.heap.size W0 w7) := B5.out.trans (b7.mono B5.out.size)
      clear b7 h3
      go_wp2_with fail
      have hb : Below W0.heap.size W0 (w7.alloc (.cells #[.int .u8 dk, .int .i64 dth, .int .i64 dtx, .int .i64 dpl, .int .i64 dv, .int .i64 dx, .int .u8 dwhy] 23)) := B7.out.alloc B7.out.size _
      refine (HD2.out _ (HB0.out.trans (hb.mono HB0.out.size))).mono ?_
      rintro _ w8 ⟨rfl, b8⟩
      have B8 : Hid (Below W0.heap.size W0 w8) := hb.trans (b8.mono hb.size)
      clear b8 hb
      go_wp2_with fail
      go_ret
      exact ⟨rfl, HB0.out.trans (B8.out.mono HB0.out.size)⟩
    · have h3 := HP.out s _ w5 HZ.out (show parseR s.data.toList = .tuple #[.agg #[.int .u8 0, .int .i64 0, .int .i64 0, .int .i64 0, .int .i64 0, .int .i64 0, .int .u8 0], .int .i64 4] by unfold parseR; rw [hd3]; rfl) (HB0.out.trans (B5.out.mono HB0.out.size))
      clear HS HD hd1 hd3 HP HM HW HE HB x0 x1 x2 x3 x4 x5 x6
      refine h3.mono ?_
      rintro _ w7 ⟨rfl, b7⟩
      have B7 : Hid (Below W0.heap.size W0 w7) := B5.out.trans (b7.mono B5.out.size)
      clear b7 h3
      go_wp2_with fail
      go_ret
      exact ⟨rfl, HB0.out.trans ((B7.out.alloc B7.out.size _).mono HB0.out.size)⟩
theorem EventBack_walk (e : Ev) (ok : EvOk e) (s : ByteArray) (hs : s.size ≤ maxLen) (w : World) (he : Ek w) :
    Calls Tryd.prog 6 #[evV e, .string s] w fun r w' => r = .returned (.bool true) ∧ Below w.heap.size w w' := by
  by_cases h : s.size ≤ 300
  · exact eback_short e ok s h w he
  · exact eback_long e s (by omega) hs w he
theorem EventBack_laid : laidOutB Tryd.prog = true := by kernel_rfl
set_option maxRecDepth 100000 in
theorem EventBack_lifted (os : Os) (started : os.Started) (H : Type) (enc : TypeId × Value → H) :
    ReturnsInHanded {} Tryd.checked os 6 .any (fun w args => (Rows.eventBackSpec.pre enc Tryd.prog Tryd.f6 [] false w args ∧ laidMetH Tryd.prog [("math/bits.deBruijn32tab", Rows.laid_math_bits_deBruijn32tab), ("math/bits.deBruijn64tab", Rows.laid_math_bits_deBruijn64tab), ("internal/strconv.uint64pow10", Rows.laid_internal_strconv_uint64pow10), ("strconv.ErrRange", Rows.laid_strconv_ErrRange), ("strconv.ErrSyntax", Rows.laid_strconv_ErrSyntax), ("seesaw/event.names", Rows.laid_seesaw_event_names)] w) ∧ sizedMet enc Tryd.prog Tryd.f6 (OpenSpec.ofChange Rows.eventBackSpec) false w args)
      (Rows.eventBackSpec.post enc Tryd.prog Tryd.f6 false true false false) := by
  refine returnsInHanded_of_change_and (C := Tryd.checked) (X := fun w _ => laidMetH Tryd.prog [("math/bits.deBruijn32tab", Rows.laid_math_bits_deBruijn32tab), ("math/bits.deBruijn64tab", Rows.laid_math_bits_deBruijn64tab), ("internal/strconv.uint64pow10", Rows.laid_internal_strconv_uint64pow10), ("strconv.ErrRange", Rows.laid_strconv_ErrRange), ("strconv.ErrSyntax", Rows.laid_strconv_ErrSyntax), ("seesaw/event.names", Rows.laid_seesaw_event_names)] w) (fun _ _ _ hh h => h.of_heap hh) lift_own started (by kernel_rfl) Tryd.func6
    (ChangeSpec.witness_shaped (enc := enc) (C := Tryd.checked) (os := os) (X := fun w _ => laidMetH Tryd.prog [("math/bits.deBruijn32tab", Rows.laid_math_bits_deBruijn32tab), ("math/bits.deBruijn64tab", Rows.laid_math_bits_deBruijn64tab), ("internal/strconv.uint64pow10", Rows.laid_internal_strconv_uint64pow10), ("strconv.ErrRange", Rows.laid_strconv_ErrRange), ("strconv.ErrSyntax", Rows.laid_strconv_ErrSyntax), ("seesaw/event.names", Rows.laid_seesaw_event_names)] w) false (World.doorLaid Tryd.prog 400 os) #[.agg #[.int .u8 0, .int .i64 0, .int .i64 0, .int .i64 0, .int .i64 0, .int .i64 0, .int .u8 0], .string ⟨#[]⟩] 8 rfl (World.shaped_of_RefB (by kernel_rfl) (by kernel_rfl)) (by kernel_rfl) (by kernel_rfl) (by kernel_rfl) (door_metE os _)) ?_
  intro W base args ds gs before hval0 hW _ _ hL _
  have hval : ∀ (j : Nat) t v, Tryd.f6.params[j]? = some t → args[j]? = some v → Value.okWide Tryd.prog W .any base t v := hval0
  have hW' := hW
  obtain ⟨p, q, hA0, hV, rfl, hfz, hnd⟩ := hW
  have hA : DataW.TrodAll enc Tryd.prog W 0 (fun _ => true) true Tryd.f6.params.toList args.toList ds p := hA0
  rw [Tryd.params6] at hA hval
  obtain ⟨v0, vs0, d0, ds0, p0, q0, hargs, rfl, rfl, h0, r0⟩ := trodAll_cons hA
  obtain ⟨v1, vs1, d1, ds1, p1, q1, rfl, rfl, rfl, h1, r1⟩ := trodAll_cons r0
  obtain ⟨rfl, rfl, rfl⟩ := trodAll_nil r1
  obtain rfl : args = #[v0, v1] := by cases args; simp_all
  obtain ⟨rfl, rfl⟩ := trodVars_none hV
  obtain ⟨e0, hE0, rfl⟩ := open_event (hval 0 23 v0 rfl rfl) h0
  obtain ⟨a1, rfl, rfl, rfl, w1⟩ := open_string Tryd.underlying9 (hval 1 9 v1 rfl rfl) h1
  clear hA0 hval0
  simp only [List.append_nil] at hW'
  try simp only [List.nil_append] at hW'
  refine (EventBack_walk e0 hE0 a1 w1 W (ek_of_laidE hL)).mono fun e W' ⟨he, hg⟩ => ?_
  subst he
  exact ⟨_, rfl, lift_post (pv := []) hW' (fun _ _ _ => (trodAll_cons_mk (shut_bool Tryd.underlying4 _) trodAll_mk0)) (fun sp hsp => (trodAll_cons_mk (WideElems.Trod_stays EventBack_laid (by kernel_rfl) (of_decide_eq_true (by kernel_rfl)) h0 (fun x hx => hg.same (hW'.lt x (by simp [hx]))) (fun x hx => hsp x (by simp [hx]))) (trodAll_cons_mk (shut_string Tryd.underlying9 w1) trodAll_mk0))) (fun _ _ => rfl) (by simp)
    hg (ok_one (by kernel_rfl) rfl (okWide_bool_mk Tryd.underlying4 _))⟩
/-- THE STATEMENT of EventBack: for every input the call returns true, and each argument reads behind it as before. -/
theorem EventBack_holds : Rows.EventBackSaid :=
  OpenClaim.holds_of_wide 6 Tryd.f6 rfl rfl rfl rfl rfl rfl rfl ⟨rfl, rfl, rfl, rfl, rfl⟩ rfl rfl rfl rfl rfl (by kernel_rfl) Tryd.func6 (by kernel_rfl)
    (of_decide_eq_true (by kernel_rfl)) (by unfold Func.isWrapper; first | (rw [if_pos (by decide +kernel)]; kernel_rfl) | (rw [if_neg (by decide +kernel)]; exact ⟨rfl, rfl⟩))
    (fun os started H enc _ => EventBack_lifted os started H enc)
/-- THE TIED CARD of EventBack. -/
theorem EventBackCard_holds : Rows.EventBackCardSaid :=
  Claim7.holds_tied_plain_at .later [] [.data, .data, .data, .sentinel, .sentinel, .data] true Rows.eventBackCard.stood.harness true
    EventBack_holds (fun _ h => by cases h) (by kernel_rfl) (fun _ h => by cases h) eventBack_row_tie rfl ⟨rfl, rfl⟩ (by kernel_rfl) rfl
    (fun f fn hf hfn => by
      obtain rfl : f = 6 := Option.some.inj ((show Tryd.prog.funcNamed "seesaw/seesawlaw12.EventBack" = some 6 by kernel_rfl).symm.trans hf) |>.symm
      obtain rfl : fn = Tryd.f6 := (Option.some.inj (Tryd.func6.symm.trans hfn)).symm
      exact ⟨by kernel_rfl, fun j t ht => by
        rw [Tryd.params6] at ht
        have hm : t ∈ [23, 9] := by simpa using Array.mem_of_getElem? ht
        have hall : ([23, 9].all fun u => !Tryd.prog.wantsStandIn u) = true := by kernel_rfl
        exact (show Tryd.prog.wantsStandIn t = false by simpa using List.all_eq_true.1 hall t hm)⟩)
    (by kernel_rfl)
end Go.Proofs.YtjholjlmlglgnaaDoor
