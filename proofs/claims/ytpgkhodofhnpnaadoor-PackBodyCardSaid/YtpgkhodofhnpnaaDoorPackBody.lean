/-
  PackBody (promise P7.3), the document's law that whatever a body is, in a frame, it is refused at a place within it, or at its end, or is a setup's: for every input the call returns true, and the argument reads behind it as before; as its TIED CARD (code's and pack's tables lie as the program's text lays them). Condition: the row's own (laid).
-/
import Derived.Test.YtpgkhodofhnpnaaDoorPz
import Derived.Test.YtpgkhodofhnpnaaDoorPla
import Derived.ChangeMaps5
namespace Go.Proofs.YtpgkhodofhnpnaaDoor
set_option maxRecDepth 100000
open Go.ChangeShapes Go.WideShapes Go.ChangeAt Go.RowKit Go.WideElems Go.WideMaps Go.ChangeMaps
set_option linter.unusedVariables false
set_option maxRecDepth 100000 in
theorem pbody_long (a : ByteArray) (h1 : a.size ≤ maxLen) (h2 : 30000 < a.size) (w : World) (hkd : Kd w) (hpt : Pt w) :
    Calls Tryd.prog 4 #[.string a] w fun e w' => e = .returned (.bool true) ∧ Below w.heap.size w w' := by
  have HW := Lib.hid (fun (w1 : World) (b1 : Below w.heap.size w w1) => works_any w1 (hkd.below b1 (Nat.le_refl _)) (hpt.below b1 (Nat.le_refl _)))
  have i1 : (30000 : Int) < (a.size : Int) := by omega
  clear hkd hpt
  go_enter Tryd.func4, Tryd.ntmps4
  go_wp2_with fail
  refine (HW.out w (Below.refl _ _)).mono ?_
  rintro _ w1 ⟨rfl, b1⟩
  have B1 := Lib.hid b1
  clear b1
  go_wp2_with fail
  refine (HW.out w1 B1.out).mono ?_
  rintro _ w2 ⟨rfl, b2⟩
  have B2 := Lib.hid (B1.out.trans (b2.mono B1.out.size))
  clear b2
  go_wp2_with fail
  go_ret
  exact ⟨rfl, B2.out⟩
set_option maxRecDepth 100000 in
set_option maxHeartbeats 2000000 in
theorem pbody_short (a : ByteArray) (h2 : a.size ≤ 30000) (w : World) (hkd : Kd w) (hpt : Pt w) :
    Calls Tryd.prog 4 #[.string a] w fun e w' => e = .returned (.bool true) ∧ Below w.heap.size w w' := by
  have HW := Lib.hid (works_any w hkd hpt)
  have i1 : ¬ (30000 : Int) < (a.size : Int) := by omega
  have hz10 := numS_size a.size
  have hpl := Vm.put_len a.size
  have hfs := frame_size a
  have HFR := Lib.hid (framed_any a (by omega))
  have HD := Lib.hid (fun (w1 : World) (b1 : Below w.heap.size w w1) => decode_any (frameS a) a (by omega) (frame_back _ (by omega)) w1 (hkd.below b1 (Nat.le_refl _)) (hpt.below b1 (Nat.le_refl _)))
  have HKD := Lib.hid hkd
  have HPT := Lib.hid hpt
  have hBA := body_any (s := a.data.toList) (okF 14)
  obtain ⟨F, hF⟩ : ∃ F, F = frameS a := ⟨_, rfl⟩
  rw [← hF] at HFR HD hfs
  have hFF : (F.toList == F.toList) = true := by simp
  have hsz : (F.size : Int) = ((numS a.size).size : Int) + a.size + 4 := by omega
  have hn0 : (1 : Int) ≤ ((numS a.size).size : Int) ∧ ((numS a.size).size : Int) ≤ 10 := by omega
  obtain ⟨hd, hhd⟩ : ∃ hd, hd = (numS a.size).size := ⟨_, rfl⟩
  rw [← hhd] at hsz hn0
  have HHD := Lib.hid hhd
  have HF := Lib.hid hF
  have HSZ := Lib.hid hsz
  have hF10 : F.size ≤ 40000 := by omega
  clear hkd hpt hz10 hpl hfs hF hhd
  go_enter Tryd.func4, Tryd.ntmps4
  go_wp2_with fail
  refine HW.out.mono ?_
  rintro _ w1 ⟨rfl, b1⟩
  have B1 := Lib.hid b1
  clear b1
  go_wp2_with fail
  refine (HFR.out w1).mono ?_
  rintro _ w2 ⟨rfl, b2⟩
  have B2 := Lib.hid (B1.out.trans (b2.mono B1.out.size))
  clear b2
  go_wp2_with fail
  have hh : (hd : Int) + (a.size : Int) + 4 - (a.size : Int) - 4 = (hd : Int) := by omega
  rw [hh]
  clear hh hsz
  refine (HD.out w2 B2.out).mono ?_
  intro e w3 hd7
  obtain ⟨b3, hm⟩ := hd7
  have B3 := Lib.hid (B2.out.trans (b3.mono B2.out.size))
  match hp : pBody a.data.toList (okF 14), hBA, hm with
  | .error (p, er), hBA, hm =>
    obtain ⟨g1, g2, g3⟩ := hBA
    have hlen : a.data.toList.length = a.size := by rw [Array.length_toList]; rfl
    have hm' : e = .returned (.tuple #[su00, .int .i64 ((hd : Int) + (p : Int)), .int .i64 er]) := by
      rw [HHD.out, ← Int.natCast_add]
      exact hm
    subst hm'
    have k1 : (er != 0) = true := by simpa using g2
    have k2 : (er != 9) = true := by simpa using g3
    have k3 : (hd : Int) ≤ (hd : Int) + (p : Int) := by omega
    have k4 : (hd : Int) + (p : Int) ≤ (hd : Int) + (a.size : Int) := by omega
    have k5 : (p : Int) ≤ 30000 := by omega
    unfold su00
    clear hBA hm hp g1 g2 g3 hlen b3
    go_wp2_with fail
    go_ret
    exact ⟨rfl, B3.out.alloc B3.out.size _⟩
  | .ok (y, p), hBA, hm =>
    obtain ⟨g1, g2⟩ := hBA
    obtain ⟨I, T, c, c', rfl, hat, htl⟩ := hm
    have hby := seB_below w3 y.st y.cl y.tr (.slice I y.init.length c) (.slice T y.thr.length c')
    have hb4 := B3.out.trans (hby.mono B3.out.size)
    have hlen : (prSu y).length ≤ 30000 := by rw [← g2, Array.length_toList]; exact h2
    have HE := Lib.hid (encode_yes 14 (by omega) y I T c c' _ _ _ (HKD.out.below hb4 (Nat.le_refl _)) (HPT.out.below hb4 (Nat.le_refl _)) (hat.below hby (Nat.le_refl _)) hby.size (by omega) g1 (by omega) (body_fits hp))
    rw [← g2, bs_of, ← HF.out] at HE
    have HB4 := Lib.hid hb4
    obtain ⟨st, cl, tr, ini, thr⟩ := y
    obtain ⟨L, hL⟩ : ∃ L, L = ini.length := ⟨_, rfl⟩
    obtain ⟨M, hM⟩ : ∃ M, M = thr.length := ⟨_, rfl⟩
    dsimp only at HE HB4 ⊢
    rw [← hL, ← hM] at HE HB4 ⊢
    unfold seB at HE HB4
    clear hp g1 g2 hat htl hby hb4 hlen hL hM b3
    go_wp2_with fail
    refine HE.out.mono ?_
    rintro _ w5 ⟨rfl, b5⟩
    have B5 := Lib.hid (HB4.out.trans (b5.mono HB4.out.size))
    clear b5
    go_wp2_with fail
    go_ret
    exact ⟨rfl, B5.out⟩
theorem PackBody_walk (a : ByteArray) (h1 : a.size ≤ maxLen) (w : World) (hkd : Kd w) (hpt : Pt w) :
    Calls Tryd.prog 4 #[.string a] w fun e w' => e = .returned (.bool true) ∧ Below w.heap.size w w' := by
  by_cases h : 30000 < a.size
  · exact pbody_long a h1 h w hkd hpt
  · exact pbody_short a (by omega) w hkd hpt
set_option maxRecDepth 100000 in
theorem PackBody_lifted (os : Os) (started : os.Started) (H : Type) (enc : TypeId × Value → H) :
    ReturnsInHanded {} Tryd.checked os 4 .any (fun w args => (Rows.packBodySpec.pre enc Tryd.prog Tryd.f4 [] false w args ∧ laidMetH Tryd.prog [("seesaw/code.kinds", Rows.laid_seesaw_code_kinds), ("seesaw/pack.parts", Rows.laid_seesaw_pack_parts)] w) ∧ sizedMet enc Tryd.prog Tryd.f4 (OpenSpec.ofChange Rows.packBodySpec) false w args)
      (Rows.packBodySpec.post enc Tryd.prog Tryd.f4 false true false false) := by
  refine returnsInHanded_of_change_and (C := Tryd.checked) (X := fun w _ => laidMetH Tryd.prog [("seesaw/code.kinds", Rows.laid_seesaw_code_kinds), ("seesaw/pack.parts", Rows.laid_seesaw_pack_parts)] w) (fun _ _ _ hh h => h.of_heap hh) lift_own started (by kernel_rfl) Tryd.func4
    (ChangeSpec.witness_shaped (enc := enc) (C := Tryd.checked) (os := os) (X := fun w _ => laidMetH Tryd.prog [("seesaw/code.kinds", Rows.laid_seesaw_code_kinds), ("seesaw/pack.parts", Rows.laid_seesaw_pack_parts)] w) false (World.doorLaid Tryd.prog 400 os) #[.string ⟨#[]⟩] 8 rfl (World.shaped_of_RefB (by kernel_rfl) (by kernel_rfl)) (by kernel_rfl) (by kernel_rfl) (by kernel_rfl) (door_met2 os _)) ?_
  intro W base args ds gs before hval0 hW _ _ hL _
  have hval : ∀ (j : Nat) t v, Tryd.f4.params[j]? = some t → args[j]? = some v → Value.okWide Tryd.prog W .any base t v := hval0
  have hW' := hW
  obtain ⟨p, q, hA0, hV, rfl, hfz, hnd⟩ := hW
  have hA : DataW.TrodAll enc Tryd.prog W 0 (fun _ => true) true Tryd.f4.params.toList args.toList ds p := hA0
  rw [Tryd.params4] at hA hval
  obtain ⟨v0, vs0, d0, ds0, p0, q0, hargs, rfl, rfl, h0, r0⟩ := trodAll_cons hA
  obtain ⟨rfl, rfl, rfl⟩ := trodAll_nil r0
  obtain rfl : args = #[v0] := by cases args; simp_all
  obtain ⟨rfl, rfl⟩ := trodVars_none hV
  obtain ⟨a0, rfl, rfl, rfl, w0⟩ := open_string Tryd.underlying9 (hval 0 9 v0 rfl rfl) h0
  clear hA0 hval0
  simp only [List.append_nil] at hW'
  refine (PackBody_walk a0 w0 W (kd_of_laid2 hL) (pt_of_laid2 hL)).mono fun e W' ⟨he, hg⟩ => ?_
  subst he
  exact ⟨_, rfl, lift_post (pv := []) hW' (fun _ _ _ => (trodAll_cons_mk (shut_bool Tryd.underlying4 _) trodAll_mk0)) (fun sp hsp => (trodAll_cons_mk (shut_string Tryd.underlying9 w0) trodAll_mk0)) (fun _ _ => rfl) (by simp)
    hg (ok_one (by kernel_rfl) rfl (okWide_bool_mk Tryd.underlying4 _))⟩
/-- THE STATEMENT of PackBody: for every input the call returns true, and each argument reads behind it as before. -/
theorem PackBody_holds : Rows.PackBodySaid :=
  OpenClaim.holds_of_wide 4 Tryd.f4 rfl rfl rfl rfl rfl rfl rfl ⟨rfl, rfl, rfl, rfl, rfl⟩ rfl rfl rfl rfl rfl (by kernel_rfl) Tryd.func4 (by kernel_rfl)
    (of_decide_eq_true (by kernel_rfl)) (by unfold Func.isWrapper; first | (rw [if_pos (by decide +kernel)]; kernel_rfl) | (rw [if_neg (by decide +kernel)]; exact ⟨rfl, rfl⟩))
    (fun os started H enc _ => PackBody_lifted os started H enc)
/-- THE TIED CARD of PackBody. -/
theorem PackBodyCard_holds : Rows.PackBodyCardSaid :=
  Claim7.holds_tied_plain_at .later [] [.data, .data] true Rows.packBodyCard.stood.harness false
    PackBody_holds (fun _ h => by cases h) (by kernel_rfl) (fun _ h => by cases h) packBody_row_tie rfl ⟨rfl, rfl⟩ (by kernel_rfl) rfl
    (fun f fn hf hfn => by
      obtain rfl : f = 4 := Option.some.inj ((show Tryd.prog.funcNamed "seesaw/seesawlaw07.PackBody" = some 4 by kernel_rfl).symm.trans hf) |>.symm
      obtain rfl : fn = Tryd.f4 := (Option.some.inj (Tryd.func4.symm.trans hfn)).symm
      exact ⟨by kernel_rfl, fun j t ht => by
        rw [Tryd.params4] at ht
        have hm : t ∈ [9] := by simpa using Array.mem_of_getElem? ht
        have hall : ([9].all fun u => !Tryd.prog.wantsStandIn u) = true := by kernel_rfl
        exact (show Tryd.prog.wantsStandIn t = false by simpa using List.all_eq_true.1 hall t hm)⟩)
    (by kernel_rfl)
end Go.Proofs.YtpgkhodofhnpnaaDoor
