/-
  EventTexts (promise P12.2): any event's text, and the event of any text, are the document's, or it is refused: for every input the call returns true, and each argument reads behind it as before; as its TIED CARD (the tables lie as the program's text lays them). Condition: the row's own (laid).
-/
import Derived.Test.YtfbnigikofidoaaDoorYk
import Derived.ChangeMaps5
namespace Go.Proofs.YtfbnigikofidoaaDoor
set_option maxRecDepth 100000
open Go.ChangeShapes Go.WideShapes Go.ChangeAt Go.RowKit Go.WideElems Go.WideMaps Go.ChangeMaps
set_option linter.unusedVariables false
theorem etexts_long (e : Ev) (s : ByteArray) (hs : 300 < s.size) (h2 : s.size ≤ maxLen) (w : World) (he : Ek w) :
    Calls Tryd.prog 3 #[evV e, .string s] w fun r w' => r = .returned (.bool true) ∧ Below w.heap.size w w' := by
  have HA : Hid (∀ w1, Below w.heap.size w w1 → Calls Tryd.prog 4 #[] w1 fun r w' => r = .returned (.bool true) ∧ Below w1.heap.size w1 w') := fun w1 h => awake_any w1 (he.below h)
  have i1 : (300 : Int) < (s.size : Int) := by omega
  clear he hs
  obtain ⟨kd, th, tx, pl, v, x, why⟩ := e
  unfold evV
  simp only
  go_enter Tryd.func3, Tryd.ntmps3
  go_wp2_with fail
  have hb : Below w.heap.size w (w.alloc (.cells #[.int .u8 kd, .int .i64 th, .int .i64 tx, .int .i64 pl, .int .i64 v, .int .i64 x, .int .u8 why] 23)) := (Below.refl _ _).alloc (Nat.le_refl _) _
  refine (HA.out _ hb).mono ?_
  rintro _ w1 ⟨rfl, b1⟩
  have B1 : Hid (Below w.heap.size w w1) := hb.trans (b1.mono hb.size)
  clear b1 hb HA
  go_wp2_with fail
  go_ret
  exact ⟨rfl, B1.out⟩
theorem showR_tuple (e : Ev) : ∃ t c, showR e = .tuple #[.string t, .int .i64 c] := by
  unfold showR
  split
  · exact ⟨_, _, rfl⟩
  · exact ⟨_, _, rfl⟩
set_option maxHeartbeats 4000000 in
theorem etexts_short (e : Ev) (ok : EvOk e) (s : ByteArray) (hs : s.size ≤ 300) (w : World) (he : Ek w) (hr : Er w) :
    Calls Tryd.prog 3 #[evV e, .string s] w fun r w' => r = .returned (.bool true) ∧ Below w.heap.size w w' := by
  obtain ⟨t, cd, hsh⟩ := showR_tuple e
  have HA : Hid (∀ w1, Below w.heap.size w w1 → Calls Tryd.prog 4 #[] w1 fun r w' => r = .returned (.bool true) ∧ Below w1.heap.size w1 w') := fun w1 h => awake_any w1 (he.below h)
  have HS : Hid (∀ w1, Below w.heap.size w w1 → Calls Tryd.prog 5 #[evV e] w1 fun r w' => r = .returned (.tuple #[.string t, .int .i64 cd]) ∧ Below w1.heap.size w1 w') := fun w1 h => hsh ▸ show_any e ok w1 (he.below h)
  have HSR : Hid (∀ w1, Below w.heap.size w w1 → Calls Tryd.prog 6 #[evV e] w1 fun r w' => r = .returned (.tuple #[.string t, .int .i64 cd]) ∧ Below w1.heap.size w1 w') := fun w1 h => hsh ▸ rshow_any e ok w1 (hr.below h)
  obtain ⟨d, hd⟩ : ∃ d, d = (parseF s.data.toList).1 := ⟨_, rfl⟩
  obtain ⟨pc, hpc⟩ : ∃ d, d = (parseF s.data.toList).2 := ⟨_, rfl⟩
  have HP : Hid (∀ w1, Below w.heap.size w w1 → Calls Tryd.prog 7 #[.string s] w1 fun r w' => r = .returned (.tuple #[evV d, .int .i64 pc]) ∧ Below w1.heap.size w1 w') := fun w1 h => by
    rw [hd, hpc]
    exact parse_any s (by omega) w1 (he.below h)
  have HPR : Hid (∀ w1, Below w.heap.size w w1 → Calls Tryd.prog 8 #[.string s] w1 fun r w' => r = .returned (.tuple #[evV d, .int .i64 pc]) ∧ Below w1.heap.size w1 w') := fun w1 h => by
    rw [hd, hpc]
    exact rparse_any s hs w1 (hr.below h)
  have i1 : (s.size : Int) ≤ 300 := by omega
  clear he hr hsh hd hpc hs ok
  obtain ⟨kd, th, tx, pl, v, x, why⟩ := e
  obtain ⟨kd', th', tx', pl', v', x', why'⟩ := d
  unfold evV at HS HSR HP HPR ⊢
  simp only at HS HSR HP HPR ⊢
  go_enter Tryd.func3, Tryd.ntmps3
  go_wp2_with fail
  obtain ⟨W0, hW0⟩ : ∃ W0, W0 = w.alloc (.cells #[.int .u8 kd, .int .i64 th, .int .i64 tx, .int .i64 pl, .int .i64 v, .int .i64 x, .int .u8 why] 23) := ⟨_, rfl⟩
  obtain ⟨g, hg⟩ : ∃ g, g = w.heap.size := ⟨_, rfl⟩
  have hr : W0.heap[g]? = some (.cells #[.int .u8 kd, .int .i64 th, .int .i64 tx, .int .i64 pl, .int .i64 v, .int .i64 x, .int .u8 why] 23 (0, 0)) := by rw [hW0, hg]; exact heap_alloc_new w _
  have hb : Below w.heap.size w W0 := by rw [hW0]; exact (Below.refl _ _).alloc (Nat.le_refl _) _
  have HR := Lib.hid hr
  have HB0 := Lib.hid hb
  rw [← hW0, ← hg]
  clear hW0 hg hr hb
  refine (HS.out W0 HB0.out).mono ?_
  rintro _ w1 ⟨rfl, c1⟩
  have B1 := Lib.hid c1
  clear c1 HS
  obtain ⟨x0, x1, x2, x3, x4, x5, x6⟩ := evat (row_stays HR.out B1.out)
  go_wp2_with fail
  refine (HSR.out w1 (HB0.out.trans (B1.out.mono HB0.out.size))).mono ?_
  rintro _ w2 ⟨rfl, c2⟩
  have B2 : Hid (Below w.heap.size w w2) := (HB0.out.trans (B1.out.mono HB0.out.size)).trans (c2.mono ((HB0.out.trans (B1.out.mono HB0.out.size)).size))
  clear c2 HSR x0 x1 x2 x3 x4 x5 x6
  go_wp2_with fail
  refine (HP.out w2 B2.out).mono ?_
  rintro _ w3 ⟨rfl, c3⟩
  have B3 : Hid (Below w.heap.size w w3) := B2.out.trans (c3.mono B2.out.size)
  clear HP c3
  go_wp2_with fail
  obtain ⟨W4, hW4⟩ : ∃ W4, W4 = w3.alloc (.cells #[.int .u8 kd', .int .i64 th', .int .i64 tx', .int .i64 pl', .int .i64 v', .int .i64 x', .int .u8 why'] 23) := ⟨_, rfl⟩
  obtain ⟨g4, hg4⟩ : ∃ g, g = w3.heap.size := ⟨_, rfl⟩
  have r4 : W4.heap[g4]? = some (.cells #[.int .u8 kd', .int .i64 th', .int .i64 tx', .int .i64 pl', .int .i64 v', .int .i64 x', .int .u8 why'] 23 (0, 0)) := by rw [hW4, hg4]; exact heap_alloc_new w3 _
  have b4 : Below w3.heap.size w3 W4 := by rw [hW4]; exact (Below.refl _ _).alloc (Nat.le_refl _) _
  have B4 : Hid (Below w.heap.size w W4) := B3.out.trans (b4.mono B3.out.size)
  have R4 := Lib.hid r4
  rw [← hW4, ← hg4]
  clear hW4 hg4 r4 b4
  refine (HPR.out W4 B4.out).mono ?_
  rintro _ w5 ⟨rfl, c5⟩
  have B5 : Hid (Below w.heap.size w w5) := B4.out.trans (c5.mono B4.out.size)
  have R5 : Hid (w5.heap[g4]? = some (.cells #[.int .u8 kd', .int .i64 th', .int .i64 tx', .int .i64 pl', .int .i64 v', .int .i64 x', .int .u8 why'] 23 (0, 0))) := row_stays R4.out c5
  clear HPR c5
  have b6 : Below w5.heap.size w5 (w5.alloc (.cells #[.int .u8 kd', .int .i64 th', .int .i64 tx', .int .i64 pl', .int .i64 v', .int .i64 x', .int .u8 why'] 23)) := (Below.refl _ _).alloc (Nat.le_refl _) _
  have R6 : Hid ((w5.alloc (.cells #[.int .u8 kd', .int .i64 th', .int .i64 tx', .int .i64 pl', .int .i64 v', .int .i64 x', .int .u8 why'] 23)).heap[g4]? = some (.cells #[.int .u8 kd', .int .i64 th', .int .i64 tx', .int .i64 pl', .int .i64 v', .int .i64 x', .int .u8 why'] 23 (0, 0))) := row_stays R5.out b6
  have R7 : Hid ((w5.alloc (.cells #[.int .u8 kd', .int .i64 th', .int .i64 tx', .int .i64 pl', .int .i64 v', .int .i64 x', .int .u8 why'] 23)).heap[w5.heap.size]? = some (.cells #[.int .u8 kd', .int .i64 th', .int .i64 tx', .int .i64 pl', .int .i64 v', .int .i64 x', .int .u8 why'] 23 (0, 0))) := heap_alloc_new w5 _
  have B6 : Hid (Below w.heap.size w (w5.alloc (.cells #[.int .u8 kd', .int .i64 th', .int .i64 tx', .int .i64 pl', .int .i64 v', .int .i64 x', .int .u8 why'] 23))) := B5.out.trans (b6.mono B5.out.size)
  clear b6
  obtain ⟨y0, y1, y2, y3, y4, y5, y6⟩ := evat R6.out
  obtain ⟨z0, z1, z2, z3, z4, z5, z6⟩ := evat R7.out
  go_wp2_with fail
  refine (HA.out _ B6.out).mono ?_
  rintro _ w8 ⟨rfl, c8⟩
  have B8 : Hid (Below w.heap.size w w8) := B6.out.trans (c8.mono B6.out.size)
  clear c8 HA
  go_wp2_with fail
  go_ret
  exact ⟨rfl, B8.out⟩
theorem EventTexts_walk (e : Ev) (ok : EvOk e) (s : ByteArray) (hs : s.size ≤ maxLen) (w : World) (he : Ek w) (hr : Er w) :
    Calls Tryd.prog 3 #[evV e, .string s] w fun r w' => r = .returned (.bool true) ∧ Below w.heap.size w w' := by
  by_cases h : s.size ≤ 300
  · exact etexts_short e ok s h w he hr
  · exact etexts_long e s (by omega) hs w he
theorem EventTexts_laid : laidOutB Tryd.prog = true := by kernel_rfl
set_option maxRecDepth 100000 in
theorem EventTexts_lifted (os : Os) (started : os.Started) (H : Type) (enc : TypeId × Value → H) :
    ReturnsInHanded {} Tryd.checked os 3 .any (fun w args => (Rows.eventTextsSpec.pre enc Tryd.prog Tryd.f3 [] false w args ∧ laidMetH Tryd.prog [("math/bits.deBruijn32tab", Rows.laid_math_bits_deBruijn32tab), ("math/bits.deBruijn64tab", Rows.laid_math_bits_deBruijn64tab), ("internal/strconv.uint64pow10", Rows.laid_internal_strconv_uint64pow10), ("strconv.ErrRange", Rows.laid_strconv_ErrRange), ("strconv.ErrSyntax", Rows.laid_strconv_ErrSyntax), ("seesaw/seesawref12.names", Rows.laid_seesaw_seesawref12_names), ("seesaw/event.names", Rows.laid_seesaw_event_names)] w) ∧ sizedMet enc Tryd.prog Tryd.f3 (OpenSpec.ofChange Rows.eventTextsSpec) false w args)
      (Rows.eventTextsSpec.post enc Tryd.prog Tryd.f3 false true false false) := by
  refine returnsInHanded_of_change_and (C := Tryd.checked) (X := fun w _ => laidMetH Tryd.prog [("math/bits.deBruijn32tab", Rows.laid_math_bits_deBruijn32tab), ("math/bits.deBruijn64tab", Rows.laid_math_bits_deBruijn64tab), ("internal/strconv.uint64pow10", Rows.laid_internal_strconv_uint64pow10), ("strconv.ErrRange", Rows.laid_strconv_ErrRange), ("strconv.ErrSyntax", Rows.laid_strconv_ErrSyntax), ("seesaw/seesawref12.names", Rows.laid_seesaw_seesawref12_names), ("seesaw/event.names", Rows.laid_seesaw_event_names)] w) (fun _ _ _ hh h => h.of_heap hh) lift_own started (by kernel_rfl) Tryd.func3
    (ChangeSpec.witness_shaped (enc := enc) (C := Tryd.checked) (os := os) (X := fun w _ => laidMetH Tryd.prog [("math/bits.deBruijn32tab", Rows.laid_math_bits_deBruijn32tab), ("math/bits.deBruijn64tab", Rows.laid_math_bits_deBruijn64tab), ("internal/strconv.uint64pow10", Rows.laid_internal_strconv_uint64pow10), ("strconv.ErrRange", Rows.laid_strconv_ErrRange), ("strconv.ErrSyntax", Rows.laid_strconv_ErrSyntax), ("seesaw/seesawref12.names", Rows.laid_seesaw_seesawref12_names), ("seesaw/event.names", Rows.laid_seesaw_event_names)] w) false (World.doorLaid Tryd.prog 400 os) #[.agg #[.int .u8 0, .int .i64 0, .int .i64 0, .int .i64 0, .int .i64 0, .int .i64 0, .int .u8 0], .string ⟨#[]⟩] 8 rfl (World.shaped_of_RefB (by kernel_rfl) (by kernel_rfl)) (by kernel_rfl) (by kernel_rfl) (by kernel_rfl) (door_metF os _)) ?_
  intro W base args ds gs before hval0 hW _ _ hL _
  have hval : ∀ (j : Nat) t v, Tryd.f3.params[j]? = some t → args[j]? = some v → Value.okWide Tryd.prog W .any base t v := hval0
  have hW' := hW
  obtain ⟨p, q, hA0, hV, rfl, hfz, hnd⟩ := hW
  have hA : DataW.TrodAll enc Tryd.prog W 0 (fun _ => true) true Tryd.f3.params.toList args.toList ds p := hA0
  rw [Tryd.params3] at hA hval
  obtain ⟨v0, vs0, d0, ds0, p0, q0, hargs, rfl, rfl, h0, r0⟩ := trodAll_cons hA
  obtain ⟨v1, vs1, d1, ds1, p1, q1, rfl, rfl, rfl, h1, r1⟩ := trodAll_cons r0
  obtain ⟨rfl, rfl, rfl⟩ := trodAll_nil r1
  obtain rfl : args = #[v0, v1] := by cases args; simp_all
  obtain ⟨rfl, rfl⟩ := trodVars_none hV
  obtain ⟨e0, hE0, rfl⟩ := open_event (hval 0 23 v0 rfl rfl) h0
  obtain ⟨a1, rfl, rfl, rfl, w1⟩ := open_string Tryd.underlying9 (hval 1 9 v1 rfl rfl) h1
  clear hA0 hval0
  simp only [List.append_nil] at hW'
  try simp only [List.nil_append] at hW'
  refine (EventTexts_walk e0 hE0 a1 w1 W (ek_of_laidF hL) (er_of_laidF hL)).mono fun e W' ⟨he, hg⟩ => ?_
  subst he
  exact ⟨_, rfl, lift_post (pv := []) hW' (fun _ _ _ => (trodAll_cons_mk (shut_bool Tryd.underlying4 _) trodAll_mk0)) (fun sp hsp => (trodAll_cons_mk (WideElems.Trod_stays EventTexts_laid (by kernel_rfl) (of_decide_eq_true (by kernel_rfl)) h0 (fun x hx => hg.same (hW'.lt x (by simp [hx]))) (fun x hx => hsp x (by simp [hx]))) (trodAll_cons_mk (shut_string Tryd.underlying9 w1) trodAll_mk0))) (fun _ _ => rfl) (by simp)
    hg (ok_one (by kernel_rfl) rfl (okWide_bool_mk Tryd.underlying4 _))⟩
/-- THE STATEMENT of EventTexts: for every input the call returns true, and each argument reads behind it as before. -/
theorem EventTexts_holds : Rows.EventTextsSaid :=
  OpenClaim.holds_of_wide 3 Tryd.f3 rfl rfl rfl rfl rfl rfl rfl ⟨rfl, rfl, rfl, rfl, rfl⟩ rfl rfl rfl rfl rfl (by kernel_rfl) Tryd.func3 (by kernel_rfl)
    (of_decide_eq_true (by kernel_rfl)) (by unfold Func.isWrapper; first | (rw [if_pos (by decide +kernel)]; kernel_rfl) | (rw [if_neg (by decide +kernel)]; exact ⟨rfl, rfl⟩))
    (fun os started H enc _ => EventTexts_lifted os started H enc)
/-- THE TIED CARD of EventTexts. -/
theorem EventTextsCard_holds : Rows.EventTextsCardSaid :=
  Claim7.holds_tied_plain_at .later [] [.data, .data, .data, .sentinel, .sentinel, .data, .data] true Rows.eventTextsCard.stood.harness true
    EventTexts_holds (fun _ h => by cases h) (by kernel_rfl) (fun _ h => by cases h) eventTexts_row_tie rfl ⟨rfl, rfl⟩ (by kernel_rfl) rfl
    (fun f fn hf hfn => by
      obtain rfl : f = 3 := Option.some.inj ((show Tryd.prog.funcNamed "seesaw/seesawlaw12.EventTexts" = some 3 by kernel_rfl).symm.trans hf) |>.symm
      obtain rfl : fn = Tryd.f3 := (Option.some.inj (Tryd.func3.symm.trans hfn)).symm
      exact ⟨by kernel_rfl, fun j t ht => by
        rw [Tryd.params3] at ht
        have hm : t ∈ [23, 9] := by simpa using Array.mem_of_getElem? ht
        have hall : ([23, 9].all fun u => !Tryd.prog.wantsStandIn u) = true := by kernel_rfl
        exact (show Tryd.prog.wantsStandIn t = false by simpa using List.all_eq_true.1 hall t hm)⟩)
    (by kernel_rfl)
end Go.Proofs.YtfbnigikofidoaaDoor
