/-
  EventTells (promise P12.1): whether any event may be, over any numbers, which stripe it is about, and each Kind's name, are the document's: for every input the call returns true, and each argument reads behind it as before; as its TIED CARD (the tables lie as the program's text lays them). Condition: the row's own (laid).
-/
import Derived.Test.YtjholjlmlglgnaaDoorYb
import Derived.ChangeMaps5
namespace Go.Proofs.YtjholjlmlglgnaaDoor
set_option maxRecDepth 100000
open Go.ChangeShapes Go.WideShapes Go.ChangeAt Go.RowKit Go.WideElems Go.WideMaps Go.ChangeMaps
set_option linter.unusedVariables false
theorem etells_long (e : Ev) (T V S kc : Int) (s : ByteArray) (hs : 100 < s.size) (h2 : s.size ≤ maxLen) (w : World) (he : Ek w) :
    Calls Tryd.prog 3 #[evV e, .int .i64 T, .int .i64 V, .int .i64 S, .int .u8 kc, .string s] w fun r w' => r = .returned (.bool true) ∧ Below w.heap.size w w' := by
  have HA : Hid (∀ w1, Below w.heap.size w w1 → Calls Tryd.prog 9 #[] w1 fun r w' => r = .returned (.bool true) ∧ Below w1.heap.size w1 w') := fun w1 h => awake_any w1 (he.below h)
  have i1 : (100 : Int) < (s.size : Int) := by omega
  clear he hs
  obtain ⟨kd, th, tx, pl, v, x, why⟩ := e
  unfold evV
  simp only
  go_enter Tryd.func3, Tryd.ntmps3
  go_wp2_with fail
  have hb : Below w.heap.size w (w.alloc (.cells #[.int .u8 kd, .int .i64 th, .int .i64 tx, .int .i64 pl, .int .i64 v, .int .i64 x, .int .u8 why] 23)) := (Below.refl _ _).alloc (Nat.le_refl _) _
  refine (HA.out _ hb).mono ?_
  rintro _ w1 ⟨rfl, b1⟩
  have B1 : Hid (Below w.heap.size w w1) := hb.trans (b1.mono hb.size)
  clear b1 hb HA
  go_wp2_with fail
  go_ret
  exact ⟨rfl, B1.out⟩
set_option maxHeartbeats 4000000 in
theorem etells_short (e : Ev) (ok : EvOk e) (T V S : Int) (kn : Nat) (hkn : kn < 256) (s : ByteArray) (hs : s.size ≤ 100) (w : World) (he : Ek w) (hr : Er w) :
    Calls Tryd.prog 3 #[evV e, .int .i64 T, .int .i64 V, .int .i64 S, .int .u8 kn, .string s] w fun r w' => r = .returned (.bool true) ∧ Below w.heap.size w w' := by
  obtain ⟨m, hm⟩ : ∃ b, b = mayB e T V S := ⟨_, rfl⟩
  obtain ⟨p, hp⟩ : ∃ b, b = stripeF e S := ⟨_, rfl⟩
  obtain ⟨K, hK⟩ : ∃ b, b = kindF s.data.toList := ⟨_, rfl⟩
  obtain ⟨b2, hb2⟩ : ∃ b, b = (K != 0) := ⟨_, rfl⟩
  obtain ⟨nm, hnm⟩ : ∃ b, b = bsW (nmL kn) := ⟨_, rfl⟩
  have HA : Hid (∀ w1, Below w.heap.size w w1 → Calls Tryd.prog 9 #[] w1 fun r w' => r = .returned (.bool true) ∧ Below w1.heap.size w1 w') := fun w1 h => awake_any w1 (he.below h)
  have HM : Hid (∀ w1, Below w.heap.size w w1 → Calls Tryd.prog 14 #[evV e, .int .i64 T, .int .i64 V, .int .i64 S] w1 fun r w' => r = .returned (.bool m) ∧ Below w1.heap.size w1 w') := fun w1 h => hm ▸ may_any e ok T V S w1 (he.below h)
  have HMR : Hid (∀ w1, Below w.heap.size w w1 → Calls Tryd.prog 15 #[evV e, .int .i64 T, .int .i64 V, .int .i64 S] w1 fun r w' => r = .returned (.bool m) ∧ Below w1.heap.size w1 w') := fun w1 h => hm ▸ rmay_any e ok T V S w1 (hr.below h)
  have HS : Hid (∀ w1, Calls Tryd.prog 10 #[evV e, .int .i64 S] w1 fun r w' => r = .returned (.tuple #[.int .i64 p.1, .bool p.2]) ∧ Below w1.heap.size w1 w') := fun w1 => hp ▸ stripe_any e S w1
  have HSR : Hid (∀ w1, Calls Tryd.prog 11 #[evV e, .int .i64 S] w1 fun r w' => r = .returned (.tuple #[.int .i64 p.1, .bool p.2]) ∧ Below w1.heap.size w1 w') := fun w1 => hp ▸ rstripe_any e S w1
  have HKD : Hid (∀ w1, Below w.heap.size w w1 → Calls Tryd.prog 12 #[.string s] w1 fun r w' => r = .returned (.tuple #[.int .u8 K, .bool b2]) ∧ w1 = w') := fun w1 h => by
    rw [hb2, hK]
    exact kind_any s w1 (he.below h)
  have HKR : Hid (∀ w1, Below w.heap.size w w1 → Calls Tryd.prog 13 #[.string s] w1 fun r w' => r = .returned (.tuple #[.int .u8 K, .bool b2]) ∧ w1 = w') := fun w1 h => by
    rw [hb2, hK]
    exact rkind_any s w1 (hr.below h)
  have HN : Hid (∀ w1, Below w.heap.size w w1 → Calls Tryd.prog 16 #[.int .u8 kn] w1 fun r w' => r = .returned (.string nm) ∧ Below w1.heap.size w1 w') := fun w1 h => (name_any kn hkn w1 (he.below h)).mono fun r w' ⟨h1, h2⟩ => ⟨by rw [h1, hnm]; rfl, h2 ▸ Below.refl _ _⟩
  have HNR : Hid (∀ w1, Below w.heap.size w w1 → Calls Tryd.prog 17 #[.int .u8 kn] w1 fun r w' => r = .returned (.string nm) ∧ Below w1.heap.size w1 w') := fun w1 h => (rname_any kn hkn w1 (hr.below h)).mono fun r w' ⟨h1, h2⟩ => ⟨by rw [h1, hnm]; rfl, h2 ▸ Below.refl _ _⟩
  have i1 : (s.size : Int) ≤ 100 := by omega
  obtain ⟨kc, hkc⟩ : ∃ z : Int, z = kn := ⟨_, rfl⟩
  rw [← hkc] at HN HNR ⊢
  clear he hr hm hp hK hb2 hnm hs ok hkc hkn
  obtain ⟨kd, th, tx, pl, v, x, why⟩ := e
  obtain ⟨p, b1⟩ := p
  unfold evV at HM HMR HS HSR ⊢
  simp only at HM HMR HS HSR ⊢
  go_enter Tryd.func3, Tryd.ntmps3
  go_wp2_with fail
  obtain ⟨W0, hW0⟩ : ∃ W0, W0 = w.alloc (.cells #[.int .u8 kd, .int .i64 th, .int .i64 tx, .int .i64 pl, .int .i64 v, .int .i64 x, .int .u8 why] 23) := ⟨_, rfl⟩
  obtain ⟨g, hg⟩ : ∃ g, g = w.heap.size := ⟨_, rfl⟩
  have hr : W0.heap[g]? = some (.cells #[.int .u8 kd, .int .i64 th, .int .i64 tx, .int .i64 pl, .int .i64 v, .int .i64 x, .int .u8 why] 23 (0, 0)) := by rw [hW0, hg]; exact heap_alloc_new w _
  have hb : Below w.heap.size w W0 := by rw [hW0]; exact (Below.refl _ _).alloc (Nat.le_refl _) _
  have HR := Lib.hid hr
  have HB0 := Lib.hid hb
  rw [← hW0, ← hg]
  clear hW0 hg hr hb
  refine (HS.out W0).mono ?_
  rintro _ w1 ⟨rfl, c1⟩
  have B1 := Lib.hid c1
  clear c1 HS
  obtain ⟨x0, x1, x2, x3, x4, x5, x6⟩ := evat (row_stays HR.out B1.out)
  go_wp2_with fail
  refine (HSR.out w1).mono ?_
  rintro _ w2 ⟨rfl, c2⟩
  have B2 : Hid (Below W0.heap.size W0 w2) := B1.out.trans (c2.mono B1.out.size)
  clear c2 HSR x0 x1 x2 x3 x4 x5 x6
  go_wp2_with fail
  refine (HKD.out w2 (HB0.out.trans (B2.out.mono HB0.out.size))).mono ?_
  rintro _ w3 ⟨rfl, rfl⟩
  clear HKD
  go_wp2_with fail
  refine (HKR.out w2 (HB0.out.trans (B2.out.mono HB0.out.size))).mono ?_
  rintro _ w3 ⟨rfl, rfl⟩
  clear HKR
  go_wp2_with fail
  have HBX : Hid (∀ wx, Below w2.heap.size w2 wx → Below w.heap.size w wx) := fun wx h => HB0.out.trans ((B2.out.trans (h.mono B2.out.size)).mono HB0.out.size)
  have HRX : Hid (∀ wx, Below w2.heap.size w2 wx → wx.heap[g]? = some (.cells #[.int .u8 kd, .int .i64 th, .int .i64 tx, .int .i64 pl, .int .i64 v, .int .i64 x, .int .u8 why] 23 (0, 0))) := fun wx h => row_stays HR.out (B2.out.trans (h.mono B2.out.size))
  refine regT7 rfl _ (by simp) w2 g kd th tx pl v x why T V S p kc K m b1 b2 nm HRX.out (fun wx h => HM.out wx (HBX.out wx h)) (fun wx h => HMR.out wx (HBX.out wx h)) (fun wx h => HN.out wx (HBX.out wx h)) (fun wx h => HNR.out wx (HBX.out wx h)) (fun wx h => HA.out wx (HBX.out wx h)) rfl rfl rfl rfl rfl rfl rfl rfl rfl rfl rfl rfl rfl ?_
  intro us w5 hu b5 h41
  obtain ⟨z0, z1, z2, z3, z4, z5, z6, z7, z8, z9, z10, z11, z12, z13, z14, z15, z16, z17, z18, z19, z20, z21, z22, z23, z24, z25, z26, z27, z28, z29, z30, z31, z32, z33, z34, z35, z36, z37, z38, z39, z40, z41, rfl⟩ : ∃ z0 z1 z2 z3 z4 z5 z6 z7 z8 z9 z10 z11 z12 z13 z14 z15 z16 z17 z18 z19 z20 z21 z22 z23 z24 z25 z26 z27 z28 z29 z30 z31 z32 z33 z34 z35 z36 z37 z38 z39 z40 z41 : Value, us = [z0, z1, z2, z3, z4, z5, z6, z7, z8, z9, z10, z11, z12, z13, z14, z15, z16, z17, z18, z19, z20, z21, z22, z23, z24, z25, z26, z27, z28, z29, z30, z31, z32, z33, z34, z35, z36, z37, z38, z39, z40, z41] := by
    obtain ⟨z0, r0, rfl, hl0⟩ := cons_ofW hu
    obtain ⟨z1, r1, rfl, hl1⟩ := cons_ofW hl0
    obtain ⟨z2, r2, rfl, hl2⟩ := cons_ofW hl1
    obtain ⟨z3, r3, rfl, hl3⟩ := cons_ofW hl2
    obtain ⟨z4, r4, rfl, hl4⟩ := cons_ofW hl3
    obtain ⟨z5, r5, rfl, hl5⟩ := cons_ofW hl4
    obtain ⟨z6, r6, rfl, hl6⟩ := cons_ofW hl5
    obtain ⟨z7, r7, rfl, hl7⟩ := cons_ofW hl6
    obtain ⟨z8, r8, rfl, hl8⟩ := cons_ofW hl7
    obtain ⟨z9, r9, rfl, hl9⟩ := cons_ofW hl8
    obtain ⟨z10, r10, rfl, hl10⟩ := cons_ofW hl9
    obtain ⟨z11, r11, rfl, hl11⟩ := cons_ofW hl10
    obtain ⟨z12, r12, rfl, hl12⟩ := cons_ofW hl11
    obtain ⟨z13, r13, rfl, hl13⟩ := cons_ofW hl12
    obtain ⟨z14, r14, rfl, hl14⟩ := cons_ofW hl13
    obtain ⟨z15, r15, rfl, hl15⟩ := cons_ofW hl14
    obtain ⟨z16, r16, rfl, hl16⟩ := cons_ofW hl15
    obtain ⟨z17, r17, rfl, hl17⟩ := cons_ofW hl16
    obtain ⟨z18, r18, rfl, hl18⟩ := cons_ofW hl17
    obtain ⟨z19, r19, rfl, hl19⟩ := cons_ofW hl18
    obtain ⟨z20, r20, rfl, hl20⟩ := cons_ofW hl19
    obtain ⟨z21, r21, rfl, hl21⟩ := cons_ofW hl20
    obtain ⟨z22, r22, rfl, hl22⟩ := cons_ofW hl21
    obtain ⟨z23, r23, rfl, hl23⟩ := cons_ofW hl22
    obtain ⟨z24, r24, rfl, hl24⟩ := cons_ofW hl23
    obtain ⟨z25, r25, rfl, hl25⟩ := cons_ofW hl24
    obtain ⟨z26, r26, rfl, hl26⟩ := cons_ofW hl25
    obtain ⟨z27, r27, rfl, hl27⟩ := cons_ofW hl26
    obtain ⟨z28, r28, rfl, hl28⟩ := cons_ofW hl27
    obtain ⟨z29, r29, rfl, hl29⟩ := cons_ofW hl28
    obtain ⟨z30, r30, rfl, hl30⟩ := cons_ofW hl29
    obtain ⟨z31, r31, rfl, hl31⟩ := cons_ofW hl30
    obtain ⟨z32, r32, rfl, hl32⟩ := cons_ofW hl31
    obtain ⟨z33, r33, rfl, hl33⟩ := cons_ofW hl32
    obtain ⟨z34, r34, rfl, hl34⟩ := cons_ofW hl33
    obtain ⟨z35, r35, rfl, hl35⟩ := cons_ofW hl34
    obtain ⟨z36, r36, rfl, hl36⟩ := cons_ofW hl35
    obtain ⟨z37, r37, rfl, hl37⟩ := cons_ofW hl36
    obtain ⟨z38, r38, rfl, hl38⟩ := cons_ofW hl37
    obtain ⟨z39, r39, rfl, hl39⟩ := cons_ofW hl38
    obtain ⟨z40, r40, rfl, hl40⟩ := cons_ofW hl39
    obtain ⟨z41, r41, rfl, hl41⟩ := cons_ofW hl40
    obtain rfl := List.length_eq_zero_iff.1 hl41
    exact ⟨z0, z1, z2, z3, z4, z5, z6, z7, z8, z9, z10, z11, z12, z13, z14, z15, z16, z17, z18, z19, z20, z21, z22, z23, z24, z25, z26, z27, z28, z29, z30, z31, z32, z33, z34, z35, z36, z37, z38, z39, z40, z41, rfl⟩
  obtain rfl : z41 = .bool true := h41
  have B5 : Hid (Below w.heap.size w w5) := HBX.out w5 b5
  clear hu b5 HBX HRX HM HMR HN HNR HA
  simp only [regT7_ds, putAll, List.setIfInBounds_toArray, List.set_cons_succ, List.set_cons_zero]
  go_wp2_with fail
  go_ret
  exact ⟨rfl, B5.out⟩
theorem EventTells_walk (e : Ev) (ok : EvOk e) (T : Int) (T1 : -9223372036854775808 ≤ T) (T2 : T < 9223372036854775808) (V : Int) (V1 : -9223372036854775808 ≤ V) (V2 : V < 9223372036854775808) (S : Int) (S1 : -9223372036854775808 ≤ S) (S2 : S < 9223372036854775808) (kc : Int) (hk : (Lit.int .u8 kc).wf = true) (s : ByteArray) (hs : s.size ≤ maxLen) (w : World) (he : Ek w) (hr : Er w) :
    Calls Tryd.prog 3 #[evV e, .int .i64 T, .int .i64 V, .int .i64 S, .int .u8 kc, .string s] w fun r w' => r = .returned (.bool true) ∧ Below w.heap.size w w' := by
  by_cases h : s.size ≤ 100
  · have := wf_u8W hk
    obtain ⟨kn, rfl⟩ : ∃ k : Nat, kc = k := ⟨kc.toNat, by omega⟩
    exact etells_short e ok T V S kn (by omega) s h w he hr
  · exact etells_long e T V S kc s (by omega) hs w he
theorem EventTells_laid : laidOutB Tryd.prog = true := by kernel_rfl
set_option maxRecDepth 100000 in
theorem EventTells_lifted (os : Os) (started : os.Started) (H : Type) (enc : TypeId × Value → H) :
    ReturnsInHanded {} Tryd.checked os 3 .any (fun w args => (Rows.eventTellsSpec.pre enc Tryd.prog Tryd.f3 [] false w args ∧ laidMetH Tryd.prog [("math/bits.deBruijn32tab", Rows.laid_math_bits_deBruijn32tab), ("math/bits.deBruijn64tab", Rows.laid_math_bits_deBruijn64tab), ("internal/strconv.uint64pow10", Rows.laid_internal_strconv_uint64pow10), ("strconv.ErrRange", Rows.laid_strconv_ErrRange), ("strconv.ErrSyntax", Rows.laid_strconv_ErrSyntax), ("seesaw/seesawref12.names", Rows.laid_seesaw_seesawref12_names), ("seesaw/event.names", Rows.laid_seesaw_event_names)] w) ∧ sizedMet enc Tryd.prog Tryd.f3 (OpenSpec.ofChange Rows.eventTellsSpec) false w args)
      (Rows.eventTellsSpec.post enc Tryd.prog Tryd.f3 false true false false) := by
  refine returnsInHanded_of_change_and (C := Tryd.checked) (X := fun w _ => laidMetH Tryd.prog [("math/bits.deBruijn32tab", Rows.laid_math_bits_deBruijn32tab), ("math/bits.deBruijn64tab", Rows.laid_math_bits_deBruijn64tab), ("internal/strconv.uint64pow10", Rows.laid_internal_strconv_uint64pow10), ("strconv.ErrRange", Rows.laid_strconv_ErrRange), ("strconv.ErrSyntax", Rows.laid_strconv_ErrSyntax), ("seesaw/seesawref12.names", Rows.laid_seesaw_seesawref12_names), ("seesaw/event.names", Rows.laid_seesaw_event_names)] w) (fun _ _ _ hh h => h.of_heap hh) lift_own started (by kernel_rfl) Tryd.func3
    (ChangeSpec.witness_shaped (enc := enc) (C := Tryd.checked) (os := os) (X := fun w _ => laidMetH Tryd.prog [("math/bits.deBruijn32tab", Rows.laid_math_bits_deBruijn32tab), ("math/bits.deBruijn64tab", Rows.laid_math_bits_deBruijn64tab), ("internal/strconv.uint64pow10", Rows.laid_internal_strconv_uint64pow10), ("strconv.ErrRange", Rows.laid_strconv_ErrRange), ("strconv.ErrSyntax", Rows.laid_strconv_ErrSyntax), ("seesaw/seesawref12.names", Rows.laid_seesaw_seesawref12_names), ("seesaw/event.names", Rows.laid_seesaw_event_names)] w) false (World.doorLaid Tryd.prog 400 os) #[.agg #[.int .u8 0, .int .i64 0, .int .i64 0, .int .i64 0, .int .i64 0, .int .i64 0, .int .u8 0], .int .i64 0, .int .i64 0, .int .i64 0, .int .u8 0, .string ⟨#[]⟩] 8 rfl (World.shaped_of_RefB (by kernel_rfl) (by kernel_rfl)) (by kernel_rfl) (by kernel_rfl) (by kernel_rfl) (door_metF os _)) ?_
  intro W base args ds gs before hval0 hW _ _ hL _
  have hval : ∀ (j : Nat) t v, Tryd.f3.params[j]? = some t → args[j]? = some v → Value.okWide Tryd.prog W .any base t v := hval0
  have hW' := hW
  obtain ⟨p, q, hA0, hV, rfl, hfz, hnd⟩ := hW
  have hA : DataW.TrodAll enc Tryd.prog W 0 (fun _ => true) true Tryd.f3.params.toList args.toList ds p := hA0
  rw [Tryd.params3] at hA hval
  obtain ⟨v0, vs0, d0, ds0, p0, q0, hargs, rfl, rfl, h0, r0⟩ := trodAll_cons hA
  obtain ⟨v1, vs1, d1, ds1, p1, q1, rfl, rfl, rfl, h1, r1⟩ := trodAll_cons r0
  obtain ⟨v2, vs2, d2, ds2, p2, q2, rfl, rfl, rfl, h2, r2⟩ := trodAll_cons r1
  obtain ⟨v3, vs3, d3, ds3, p3, q3, rfl, rfl, rfl, h3, r3⟩ := trodAll_cons r2
  obtain ⟨v4, vs4, d4, ds4, p4, q4, rfl, rfl, rfl, h4, r4⟩ := trodAll_cons r3
  obtain ⟨v5, vs5, d5, ds5, p5, q5, rfl, rfl, rfl, h5, r5⟩ := trodAll_cons r4
  obtain ⟨rfl, rfl, rfl⟩ := trodAll_nil r5
  obtain rfl : args = #[v0, v1, v2, v3, v4, v5] := by cases args; simp_all
  obtain ⟨rfl, rfl⟩ := trodVars_none hV
  obtain ⟨e0, hE0, rfl⟩ := open_event (hval 0 23 v0 rfl rfl) h0
  obtain ⟨a1, rfl, rfl, rfl, w1⟩ := open_int Tryd.underlying3 (hval 1 3 v1 rfl rfl) h1
  obtain ⟨a2, rfl, rfl, rfl, w2⟩ := open_int Tryd.underlying3 (hval 2 3 v2 rfl rfl) h2
  obtain ⟨a3, rfl, rfl, rfl, w3⟩ := open_int Tryd.underlying3 (hval 3 3 v3 rfl rfl) h3
  obtain ⟨a4, rfl, rfl, rfl, w4⟩ := open_int Tryd.underlying5 (hval 4 5 v4 rfl rfl) h4
  obtain ⟨a5, rfl, rfl, rfl, w5⟩ := open_string Tryd.underlying9 (hval 5 9 v5 rfl rfl) h5
  clear hA0 hval0
  simp only [List.append_nil] at hW'
  try simp only [List.nil_append] at hW'
  refine (EventTells_walk e0 hE0 a1 (lit_range2 w1).1 (lit_range2 w1).2 a2 (lit_range2 w2).1 (lit_range2 w2).2 a3 (lit_range2 w3).1 (lit_range2 w3).2 a4 w4 a5 w5 W (ek_of_laidF hL) (er_of_laidF hL)).mono fun e W' ⟨he, hg⟩ => ?_
  subst he
  exact ⟨_, rfl, lift_post (pv := []) hW' (fun _ _ _ => (trodAll_cons_mk (shut_bool Tryd.underlying4 _) trodAll_mk0)) (fun sp hsp => (trodAll_cons_mk (WideElems.Trod_stays EventTells_laid (by kernel_rfl) (of_decide_eq_true (by kernel_rfl)) h0 (fun x hx => hg.same (hW'.lt x (by simp [hx]))) (fun x hx => hsp x (by simp [hx]))) (trodAll_cons_mk (shut_int Tryd.underlying3 w1) (trodAll_cons_mk (shut_int Tryd.underlying3 w2) (trodAll_cons_mk (shut_int Tryd.underlying3 w3) (trodAll_cons_mk (shut_int Tryd.underlying5 w4) (trodAll_cons_mk (shut_string Tryd.underlying9 w5) trodAll_mk0))))))) (fun _ _ => rfl) (by simp)
    hg (ok_one (by kernel_rfl) rfl (okWide_bool_mk Tryd.underlying4 _))⟩
/-- THE STATEMENT of EventTells: for every input the call returns true, and each argument reads behind it as before. -/
theorem EventTells_holds : Rows.EventTellsSaid :=
  OpenClaim.holds_of_wide 3 Tryd.f3 rfl rfl rfl rfl rfl rfl rfl ⟨rfl, rfl, rfl, rfl, rfl⟩ rfl rfl rfl rfl rfl (by kernel_rfl) Tryd.func3 (by kernel_rfl)
    (of_decide_eq_true (by kernel_rfl)) (by unfold Func.isWrapper; first | (rw [if_pos (by decide +kernel)]; kernel_rfl) | (rw [if_neg (by decide +kernel)]; exact ⟨rfl, rfl⟩))
    (fun os started H enc _ => EventTells_lifted os started H enc)
/-- THE TIED CARD of EventTells. -/
theorem EventTellsCard_holds : Rows.EventTellsCardSaid :=
  Claim7.holds_tied_plain_at .later [] [.data, .data, .data, .sentinel, .sentinel, .data, .data] true Rows.eventTellsCard.stood.harness true
    EventTells_holds (fun _ h => by cases h) (by kernel_rfl) (fun _ h => by cases h) eventTells_row_tie rfl ⟨rfl, rfl⟩ (by kernel_rfl) rfl
    (fun f fn hf hfn => by
      obtain rfl : f = 3 := Option.some.inj ((show Tryd.prog.funcNamed "seesaw/seesawlaw12.EventTells" = some 3 by kernel_rfl).symm.trans hf) |>.symm
      obtain rfl : fn = Tryd.f3 := (Option.some.inj (Tryd.func3.symm.trans hfn)).symm
      exact ⟨by kernel_rfl, fun j t ht => by
        rw [Tryd.params3] at ht
        have hm : t ∈ [23, 3, 3, 3, 5, 9] := by simpa using Array.mem_of_getElem? ht
        have hall : ([23, 3, 3, 3, 5, 9].all fun u => !Tryd.prog.wantsStandIn u) = true := by kernel_rfl
        exact (show Tryd.prog.wantsStandIn t = false by simpa using List.all_eq_true.1 hall t hm)⟩)
    (by kernel_rfl)
end Go.Proofs.YtjholjlmlglgnaaDoor
