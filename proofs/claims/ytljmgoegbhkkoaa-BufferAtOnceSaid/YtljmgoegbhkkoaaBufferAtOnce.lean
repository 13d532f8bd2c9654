/-
  BufferAtOnce: for every input the call returns true, and each argument reads behind it as before. No condition. (Whatever is put behind Push: with Merge what is written is what it would be without the level.)
-/
import Derived.Test.YtljmgoegbhkkoaaLy
import Derived.StillTailTactics
namespace Go.Proofs.Ytljmgoegbhkkoaa
set_option maxRecDepth 100000
open Go.RowKit Go.Maps Go.Shelf
open Go.ChangeShapes Go.WideShapes Go.Deep
set_option linter.unusedVariables false
set_option maxRecDepth 100000 in
set_option maxHeartbeats 4000000 in
theorem atonce_big (A0 : Option Addr) (c0 : Nat) (L0 : List St8) (A1 : Option Addr) (c1 : Nat) (L1 : List Pr) (hl0 : L0.length ≤ 9223372036854775807) (hl1 : L1.length ≤ 9223372036854775807) (h : 200 < L0.length ∨ 200 < L1.length) (w : World) :
    Calls Try.prog 6 #[.slice A0 L0.length c0, .slice A1 L1.length c1] w fun e w' => e = .returned (.bool true) ∧ Below w.heap.size w w' := by
  by_cases h0 : 200 < L0.length
  · have i0 : (200 : Int) < (L0.length : Int) := by omega
    clear h
    go_enter Try.func6, Try.ntmps6
    go_wp2_with fail
    refine (awake_any _).mono ?_
    rintro e w1 ⟨rfl, hb⟩
    go_wp2_with fail
    go_ret
    exact ⟨rfl, hb⟩
  · have i0 : ¬ (200 : Int) < (L0.length : Int) := by omega
    have i1 : (200 : Int) < (L1.length : Int) := by omega
    clear h
    go_enter Try.func6, Try.ntmps6
    go_wp2_with fail
    refine (awake_any _).mono ?_
    rintro e w1 ⟨rfl, hb⟩
    go_wp2_with fail
    go_ret
    exact ⟨rfl, hb⟩
set_option maxRecDepth 100000 in
set_option maxHeartbeats 8000000 in
theorem atonce_small (A0 : Option Addr) (c0 : Nat) (L0 : List St8) (A1 : Option Addr) (c1 : Nat) (L1 : List Pr) (hl0 : L0.length ≤ 200) (hl1 : L1.length ≤ 200) (w : World) (hs0 : Steps8 w w.heap.size A0 L0) (hs1 : PairsAt w w.heap.size A1 L1) (hw1 : ∀ e ∈ L1, wfI e.1 ∧ wfI e.2) :
    Calls Try.prog 6 #[.slice A0 L0.length c0, .slice A1 L1.length c1] w fun e w' => e = .returned (.bool true) ∧ Below w.heap.size w w' := by
  have i0 : ¬ (200 : Int) < (L0.length : Int) := by omega
  have i1 : ¬ (200 : Int) < (L1.length : Int) := by omega
  have HS0 := Lib.hid hs0
  have HS1 := Lib.hid hs1
  have HW1 := Lib.hid hw1
  clear hs0 hs1 hw1
  go_enter Try.func6, Try.ntmps6
  go_wp2_with fail
  refine (awake_any _).mono ?_
  rintro e w1 ⟨rfl, hb1⟩
  go_wp2_with fail
  refine (bx_new w w1 hb1).mono ?_
  rintro e w2 ⟨rfl, hx2⟩
  obtain ⟨q, hq⟩ : ∃ q, q = w1.heap.size := ⟨_, rfl⟩
  rw [← hq] at hx2 ⊢
  have HX2 := Lib.hid hx2
  clear hq hx2 hb1
  go_wp2_with fail
  go_loopw [6] (fun i wr => ∃ (k : Nat) (T : List (List Pr)), k ≤ L0.length ∧ i = .int .i64 k ∧ Hid ((flat T).length ≤ k ∧ T.length ≤ k + 1) ∧ Hid (BX w q (fun _ => False) T wr)) (fun i _ => L0.length - (intOf i).toNat)
  case atStart => exact ⟨0, [[]], by omega, rfl, ⟨by simp [flat], by simp⟩, HX2⟩
  case round =>
    obtain ⟨k, T, hk, rfl, hbd, hx⟩ := hrel
    by_cases hlt : k < L0.length
    · obtain ⟨p, rfl, mb, hst⟩ := HS0.out.below hx.out.low k hlt
      have hok := hst.ok
      obtain ⟨s, hse⟩ : ∃ s, s = nth8 L0 k := ⟨_, rfl⟩
      rw [← hse] at hst hok
      obtain ⟨d0, d1, d2, _⟩ := hst
      have i2 : (0 : Int) ≤ (k : Int) := by omega
      have i3 : (k : Int) < (L0.length : Int) := by omega
      have i4 : (k : Int) ≤ 200 := by omega
      have hbt := step_bounds s.k s.v s.x T hx.out.ne
      have hcall := bx_do hx.out (by have := hbd.out; omega) (by have := hbd.out; omega) s.k s.v s.x hok.k hok.v hok.x
      have HBT : Hid ((flat (stepT s.k s.v s.x T)).length ≤ k + 1 ∧ (stepT s.k s.v s.x T).length ≤ k + 1 + 1) := by have := hbd.out; exact ⟨by omega, by omega⟩
      clear hse mb hbt hok
      go_wp2_with fail
      refine hcall.mono ?_
      rintro e w5 ⟨rfl, hx5, _⟩
      have HX5 := Lib.hid hx5
      clear hx5 hcall hx hbd d0 d1 d2
      go_wp2_with fail
      go_roundw
      case rel => exact ⟨k + 1, _, by omega, by go_num, HBT, HX5⟩
      case measure => simp [intOf]; omega
    · obtain rfl : k = L0.length := by omega
      have hT1 : T.length ≤ 201 := by have := hbd.out; omega
      have hT2 : (flat T).length ≤ 200 := by have := hbd.out; omega
      have hTi : (T.length : Int) ≤ 201 := by omega
      have hT0 : T ≠ [] := hx.out.ne
      have HT0 := Lib.hid hT0
      clear hbd hT0
      go_wp2_with fail
      refine (b2_copy hx.out (by omega)).mono ?_
      rintro e w5 ⟨cq, rfl, h5⟩
      have H5 := Lib.hid h5
      clear h5 hx
      go_wp2_with fail
      refine (b2_push H5.out (by omega)).mono ?_
      rintro e w6 ⟨rfl, h6⟩
      have H6 := Lib.hid h6
      clear h6 H5
      go_wp2_with fail
      go_loopw [8] (fun i wr => ∃ (j : Nat) (Ta Tb : List (List Pr)), j ≤ L1.length ∧ i = .int .i64 j ∧ Hid (Ta.length = T.length + 1 ∧ Tb.length = T.length ∧ Tb ≠ [] ∧ flat Ta = flat Tb ∧ (flat Ta).length ≤ 200 + j) ∧ Hid (B2 w q cq Ta Tb wr)) (fun i _ => L1.length - (intOf i).toNat)
      case atStart => exact ⟨0, [] :: T, T, by omega, rfl, ⟨rfl, rfl, HT0.out, flat_push T, by rw [flat_push]; omega⟩, H6⟩
      case round =>
        obtain ⟨j, Ta, Tb, hj, rfl, hbd, hx⟩ := hrel
        have hla : Ta.length ≤ 202 := by have := hbd.out.1; omega
        have hlb : Tb.length ≤ 201 := by have := hbd.out.2.1; omega
        have hfa : (flat Ta).length ≤ 400 := by have := hbd.out.2.2.2.2; omega
        have hfb : (flat Tb).length ≤ 400 := by rw [← hbd.out.2.2.2.1]; exact hfa
        by_cases hlt : j < L1.length
        · obtain ⟨p, rfl, mb, x1, x2⟩ := HS1.out.below hx.out.low (Nat.le_refl _) j hlt
          obtain ⟨hv, hx9⟩ := HW1.out L1[j] (List.getElem_mem hlt)
          obtain ⟨y1, hy1⟩ : ∃ y, y = L1[j].1 := ⟨_, rfl⟩
          obtain ⟨y2, hy2⟩ : ∃ y, y = L1[j].2 := ⟨_, rfl⟩
          have HY : Hid (y1 = L1[j].1 ∧ y2 = L1[j].2) := ⟨hy1, hy2⟩
          rw [← hy1] at x1 hv
          rw [← hy2] at x2 hx9
          have i2 : (0 : Int) ≤ (j : Int) := by omega
          have i3 : (j : Int) < (L1.length : Int) := by omega
          have i4 : (j : Int) ≤ 200 := by omega
          clear hy1 hy2 mb
          go_wp2_with fail
          go_still_tail 11, (by kernel_rfl)
          change wpList _ _ _ _ _ wr.drew
          go_wp2_with fail
          refine (b2_put (hx.out.below (Below.refl _ wr).drew) (by omega) y1 y2 hv hx9).mono ?_
          rintro e w7 ⟨rfl, h7⟩
          obtain ⟨p', hpe, _, z1, z2⟩ := HS1.out.below h7.low (Nat.le_refl _) j hlt
          obtain rfl : p = p' := Option.some.inj hpe
          rw [← HY.out.1] at z1
          rw [← HY.out.2] at z2
          have H7 := Lib.hid h7
          clear h7 hx x1 x2 hpe
          go_wp2_with fail
          go_still_tail 11, (by kernel_rfl)
          change wpList _ _ _ _ _ w7.drew
          go_wp2_with fail
          refine (b2_put (H7.out.swap.below (Below.refl _ w7).drew) (by omega) y1 y2 hv hx9).mono ?_
          rintro e w8 ⟨rfl, h8⟩
          have HBD : Hid ((putT y1 y2 Ta).length = T.length + 1 ∧ (putT y1 y2 Tb).length = T.length ∧ putT y1 y2 Tb ≠ [] ∧ flat (putT y1 y2 Ta) = flat (putT y1 y2 Tb) ∧ (flat (putT y1 y2 Ta)).length ≤ 200 + (j + 1)) := by
            obtain ⟨q1, q2, q3, q4, q5⟩ := hbd.out
            have qa : Ta ≠ [] := fun h => by rw [h] at q1; simp at q1
            refine ⟨by rw [putT_len]; exact q1, by rw [putT_len]; exact q2, fun h => ?_, by rw [flat_put qa, flat_put q3, q4], by rw [flat_put qa, List.length_append]; simp; omega⟩
            have := congrArg List.length h
            rw [putT_len] at this
            exact q3 (List.length_eq_zero_iff.1 this)
          have H8 := Lib.hid h8.swap
          clear h8 z1 z2 H7
          have ga : (putT y1 y2 Ta).length ≤ 202 := by rw [putT_len]; exact hla
          have gb : (putT y1 y2 Tb).length ≤ 201 := by rw [putT_len]; exact hlb
          have gc : (flat (putT y1 y2 Ta)).length ≤ 401 := by have := HBD.out.2.2.2.2; omega
          have gd : flat (putT y1 y2 Ta) = flat (putT y1 y2 Tb) := HBD.out.2.2.2.1
          go_wp2_with fail
          refine (b2_all H8.out (by omega) (by omega)).mono ?_
          rintro e w9 ⟨B1, d1, rfl, p1, h9, b9⟩
          have H9 := Lib.hid h9
          have P1 := Lib.hid p1
          clear h9 p1
          go_wp2_with fail
          refine (b2_all H9.out.swap (by omega) (by rw [← gd]; omega)).mono ?_
          rintro e w10 ⟨B2', d2, rfl, p2, h10, b10⟩
          have H10 := Lib.hid h10.swap
          rw [← gd] at p2 ⊢
          have hll : (allS (flat (putT y1 y2 Ta))).length ≤ 1000000 := by have := all_len (flat (putT y1 y2 Ta)); omega
          have hpc := pairs_any _ _ w10.heap.size B1 B2' d1 d2 w10 ((P1.out.below b10 (Nat.le_refl _)).wide b10.size) p2 (Nat.le_refl _) hll hll
          rw [decide_eq_true rfl] at hpc
          clear hll p2 P1 H9 h10 b9 b10 ga gb gc gd
          go_wp2_with fail
          refine hpc.mono ?_
          rintro e w11 ⟨rfl, b11⟩
          have H11 := Lib.hid (H10.out.below b11)
          clear hpc b11 H10
          go_wp2_with fail
          go_roundw
          case rel => exact ⟨j + 1, _, _, by omega, by go_num, HBD, H11⟩
          case measure => simp [intOf]; omega
        · obtain rfl : j = L1.length := by omega
          obtain ⟨q1, q2, q3, q4, q5⟩ := hbd.out
          have hTp : 0 < T.length := List.length_pos_iff.2 HT0.out
          have ga : (mergeT Ta).length = T.length := by have := mergeT_len (T := Ta) (by omega); omega
          have gc : flat (mergeT Ta) = flat Tb := by rw [flat_merge]; exact q4
          have hme := b2_merge hx.out (by omega) (by omega) (by omega)
          have GC := Lib.hid gc
          have GA := Lib.hid ga
          clear q1 q2 q3 q4 q5 hx ga gc
          go_wp2_with fail
          refine hme.mono ?_
          rintro e w7 ⟨rfl, h7⟩
          have H7 := Lib.hid h7
          have hd1 := b2_depth H7.out (by have := GA.out; omega)
          have hd2 := b2_depth H7.out.swap (by omega)
          rw [GA.out] at hd1
          rw [hbd.out.2.1] at hd2
          clear h7 hme
          go_wp2_with fail
          refine hd1.mono ?_
          rintro e w8 ⟨rfl, rfl⟩
          go_wp2_with fail
          refine hd2.mono ?_
          rintro e w8 ⟨rfl, rfl⟩
          clear hd1 hd2
          have hal := b2_all H7.out (by have := GA.out; omega) (by rw [GC.out]; omega)
          rw [GC.out] at hal
          go_wp2_with fail
          refine hal.mono ?_
          rintro e w9 ⟨B1, d1, rfl, p1, h9, b9⟩
          have H9 := Lib.hid h9
          have P1 := Lib.hid p1
          clear h9 p1 hal
          go_wp2_with fail
          refine (b2_all H9.out.swap (by omega) (by omega)).mono ?_
          rintro e w10 ⟨B2', d2, rfl, p2, h10, b10⟩
          have hll : (allS (flat Tb)).length ≤ 1000000 := by have := all_len (flat Tb); omega
          have hpc := pairs_any _ _ w10.heap.size B1 B2' d1 d2 w10 ((P1.out.below b10 (Nat.le_refl _)).wide b10.size) p2 (Nat.le_refl _) hll hll
          rw [decide_eq_true rfl] at hpc
          have hbw := h10.low
          clear hll p2 P1 H9 h10 b9 b10
          go_wp2_with fail
          refine hpc.mono ?_
          rintro e w11 ⟨rfl, b11⟩
          go_wp2_with fail
          go_ret
          exact ⟨rfl, hbw.trans (b11.mono hbw.size)⟩
theorem BufferAtOnce_walk (A0 : Option Addr) (c0 : Nat) (L0 : List St8) (wl0 : L0.length ≤ 9223372036854775807) (w : World) (ws0 : Steps8 w w.heap.size A0 L0) (A1 : Option Addr) (c1 : Nat) (L1 : List Pr) (wl1 : L1.length ≤ 9223372036854775807) (ws1 : PairsAt w w.heap.size A1 L1 ∧ ∀ e ∈ L1, wfI e.1 ∧ wfI e.2) :
    Calls Try.prog 6 #[.slice A0 L0.length c0, .slice A1 L1.length c1] w fun e w' => e = .returned (.bool true) ∧ Below w.heap.size w w' := by
  by_cases h : 200 < L0.length ∨ 200 < L1.length
  · exact atonce_big A0 c0 L0 A1 c1 L1 wl0 wl1 h w
  · exact atonce_small A0 c0 L0 A1 c1 L1 (by omega) (by omega) w ws0 ws1.1 ws1.2
theorem BufferAtOnce_laid : laidOutB Try.prog = true := by kernel_rfl
set_option maxRecDepth 100000 in
theorem BufferAtOnce_lifted (os : Os) (started : os.Started) (H : Type) (enc : TypeId × Value → H) :
    ReturnsInHanded {} Try.checked os 6 .any (Rows.bufferAtOnceSpec.pre6 enc Try.prog Try.f6 Rows.bufferAtOnceRow.domain false) (Rows.bufferAtOnceSpec.post enc Try.prog Try.f6 false true false false) := by
  refine returnsInHanded_of_change (C := Try.checked) lift_own started (by kernel_rfl) Try.func6
    (ChangeSpec.witness6 (enc := enc) (C := Try.checked) false ⟨#[], #[.slice none 0 0, .slice none 0 0], []⟩ 8 (by kernel_rfl) (by kernel_rfl) (by kernel_rfl) (by kernel_rfl)) ?_
  intro W base args ds gs before hval0 hW hcnd _
  have hval : ∀ (j : Nat) t v, Try.f6.params[j]? = some t → args[j]? = some v → Value.okWide Try.prog W .any base t v := hval0
  have hW' := hW
  obtain ⟨p, q, hA0, hV, rfl, hfz, hnd⟩ := hW
  have hA : DataW.TrodAll enc Try.prog W 0 (fun _ => true) true Try.f6.params.toList args.toList ds p := hA0
  rw [Try.params6] at hA hval
  obtain ⟨v0, vs0, d0, ds0, p0, q0, hargs, rfl, rfl, h0, r0⟩ := trodAll_cons hA
  obtain ⟨v1, vs1, d1, ds1, p1, q1, rfl, rfl, rfl, h1, r1⟩ := trodAll_cons r0
  obtain ⟨rfl, rfl, rfl⟩ := trodAll_nil r1
  obtain rfl : args = #[v0, v1] := by cases args; simp_all
  obtain ⟨rfl, rfl⟩ := trodVars_none hV
  obtain ⟨A0, c0, L0, rfl, wl0, ws0⟩ := open_steps8 (hval 0 22 v0 rfl rfl) h0
  obtain ⟨A1, c1, L1, rfl, wl1, ws1⟩ := open_pairs8 (hval 1 35 v1 rfl rfl) h1
  clear hA0 hval0
  simp only [List.append_nil] at hW'
  refine (BufferAtOnce_walk A0 c0 L0 wl0 W ws0 A1 c1 L1 wl1 ws1).mono fun e W' ⟨he, hg⟩ => ?_
  subst he
  exact ⟨_, rfl, lift_post (pv := []) hW' (fun _ _ _ => (trodAll_cons_mk (shut_bool Try.underlying4 _) trodAll_mk0)) (fun sp hsp => (trodAll_cons_mk (WideElems.Trod_stays BufferAtOnce_laid (by kernel_rfl) (of_decide_eq_true (by kernel_rfl)) h0 (fun x hx => hg.same (hW'.lt x (by simp [hx]))) (fun x hx => hsp x (by simp [hx]))) (trodAll_cons_mk (WideElems.Trod_stays BufferAtOnce_laid (by kernel_rfl) (of_decide_eq_true (by kernel_rfl)) h1 (fun x hx => hg.same (hW'.lt x (by simp [hx]))) (fun x hx => hsp x (by simp [hx]))) trodAll_mk0))) (fun _ _ => rfl) (by simp)
    hg (ok_one (by kernel_rfl) rfl (okWide_bool_mk Try.underlying4 _))⟩

/-- THE STATEMENT of BufferAtOnce: for every input the call returns true, and each argument reads behind it as before. -/
theorem BufferAtOnce_holds : Rows.BufferAtOnceSaid :=
  OpenClaim.holds_of_wide 6 Try.f6 rfl rfl rfl rfl rfl rfl rfl ⟨rfl, rfl, rfl, rfl, rfl⟩ rfl rfl rfl rfl rfl (by kernel_rfl) Try.func6 (by kernel_rfl)
    (of_decide_eq_true (by kernel_rfl)) (by unfold Func.isWrapper; first | (rw [if_pos (by decide +kernel)]; kernel_rfl) | (rw [if_neg (by decide +kernel)]; exact ⟨rfl, rfl⟩))
    (fun os started H enc _ => BufferAtOnce_lifted os started H enc)

end Go.Proofs.Ytljmgoegbhkkoaa
