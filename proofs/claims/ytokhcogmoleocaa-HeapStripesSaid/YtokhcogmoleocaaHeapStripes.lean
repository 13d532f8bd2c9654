/-
  HeapStripes: for every input the call returns true, and each argument reads behind it as before. No condition. (Variables that are apart by how many stripes there are belong to the same stripe; each stripe has a variable; values are those that were handed in.)
-/
import Derived.Test.YtokhcogmoleocaaHj
import Derived.Test.YtokhcogmoleocaaLift
import Derived.Deep.RegionHeld3
namespace Go.Proofs.Ytokhcogmoleocaa
set_option maxRecDepth 100000
open Go.RowKit Go.Deep
open Go.ChangeShapes Go.WideShapes
set_option linter.unusedVariables false
set_option maxHeartbeats 4000000 in
theorem stripes_big (A : Option Addr) (c : Nat) (L : List Int) (hl : L.length ≤ 9223372036854775807) (h : 100 < L.length) (st limit v : Int) (w : World) : Calls Try.prog 8 #[.slice A L.length c, .int .i64 st, .int .i64 limit, .int .i64 v] w fun e w' => e = .returned (.bool true) ∧ Below w.heap.size w w' := by
  have q1 : (100 : Int) < (L.length : Int) := by omega
  go_enter Try.func8, Try.ntmps8
  go_wp2_with fail
  refine (works11_any w).mono ?_
  rintro e w1 ⟨rfl, hb1⟩
  go_wp2_with fail
  refine (works11_any w1).mono ?_
  rintro e w2 ⟨rfl, hb2⟩
  have HB := Lib.hid (hb1.trans (hb2.mono hb1.size))
  clear hb1 hb2
  go_wp2_with fail
  go_ret
  exact ⟨rfl, HB.out⟩
set_option maxHeartbeats 4000000 in
theorem stripes_no (A : Option Addr) (c : Nat) (L : List Int) (h : L.length ≤ 100) (st limit v : Int) (hbad : badH L.length st limit = true) (w : World) : Calls Try.prog 8 #[.slice A L.length c, .int .i64 st, .int .i64 limit, .int .i64 v] w fun e w' => e = .returned (.bool true) ∧ Below w.heap.size w w' := by
  have q1 : ¬ (100 : Int) < (L.length : Int) := by omega
  have HN := Lib.hid (hnew_no hbad A c (by omega))
  go_enter Try.func8, Try.ntmps8
  go_wp2_with fail
  refine (works11_any w).mono ?_
  rintro e w1 ⟨rfl, hb1⟩
  have HB := Lib.hid hb1
  clear hb1
  go_wp2_with fail
  refine (HN.out w1).mono ?_
  rintro e w' ⟨rfl, rfl⟩
  go_wp2_with fail
  go_ret
  exact ⟨rfl, HB.out⟩
theorem stripeF_new {L : List Int} {st limit : Int} {k : Nat} (h : k < L.length) : stripeF (newF L st limit) (k : Int) = (k : Int) % st := by
  unfold stripeF
  rw [if_pos (by rw [isV_iff, new_vars]; omega), new_st]
set_option maxHeartbeats 8000000 in
theorem stripes_yes (A : Option Addr) (c : Nat) (L : List Int) (h : L.length ≤ 100) (st limit v : Int) (hok : badH L.length st limit = false) (w : World) (hI : Ints w w.heap.size A L) : Calls Try.prog 8 #[.slice A L.length c, .int .i64 st, .int .i64 limit, .int .i64 v] w fun e w' => e = .returned (.bool true) ∧ Below w.heap.size w w' := by
  have q1 : ¬ (100 : Int) < (L.length : Int) := by omega
  have hb0 := HB.new hok
  obtain ⟨h1, h2, h3, h4, h5, h6⟩ := badH_no hok
  have HBO := Lib.hid hb0
  have HOK := Lib.hid hok
  obtain ⟨m1, m2, m3⟩ := modH_wrap v (L.length : Int) (by omega) (by omega)
  have hnz := modH_nz (L.length : Int) (by omega) (by omega)
  obtain ⟨k, hk⟩ : ∃ k : Nat, modH v L.length = k := ⟨(modH v L.length).toNat, by omega⟩
  rw [hk, IntWalk.u64_in (L.length : Int) ⟨by omega, by omega⟩] at m1
  rw [hk] at m2 m3
  have m4 : wrap64 ((k : Int) + st) = (k : Int) + st := by unfold wrap64; omega
  have q2 : decide ((100 : Int) < (L.length : Int)) = false := decide_eq_false q1
  have HI := Lib.hid hI
  clear hI hok hb0 hk
  go_enter Try.func8, Try.ntmps8
  go_wp2_with fail
  refine (works11_any w).mono ?_
  rintro e w1 ⟨rfl, hb1⟩
  have HB := Lib.hid hb1
  have HI1 := Lib.hid (ints_up11 (HI.out.below hb1 (Nat.le_refl _)) hb1.size)
  clear hb1
  go_wp2_with fail
  refine (hnew_yes HOK.out c HI1.out).mono ?_
  rintro e w2 ⟨g, rfl, hH, hg, hb2⟩
  have HH := Lib.hid hH
  have HB2 := Lib.hid (HB.out.trans (hb2.mono HB.out.size))
  have HI2 := Lib.hid (ints_up11 (HI1.out.below hb2 (Nat.le_refl _)) hb2.size)
  clear hH hb2 hg HB
  obtain ⟨p, rfl, mp, hp⟩ := HI2.out.cell k (by omega)
  obtain ⟨st, rfl⟩ : ∃ s : Nat, st = s := ⟨st.toNat, by omega⟩
  obtain ⟨r, hr⟩ : ∃ r, r = (k : Int) % (st : Int) := ⟨_, rfl⟩
  have r1 : 0 ≤ r := by rw [hr]; exact Int.emod_nonneg _ (by omega)
  have r2 : r < st := by rw [hr]; exact Int.emod_lt_of_pos _ (by omega)
  have A0 : Hid (Calls Try.prog 19 #[.pointer (some ⟨g, 0, none⟩), .int .i64 k] w2 fun e w' => e = .returned (.int .i64 r) ∧ w2 = w') := by
    have := stripe_any HH.out HBO.out (k : Int)
    rw [stripeF_new (by omega), ← hr] at this
    exact this
  have HM : Hid ((k : Int) + st < L.length → Calls Try.prog 19 #[.pointer (some ⟨g, 0, none⟩), .int .i64 ((k : Int) + st)] w2 fun e w' => e = .returned (.int .i64 r) ∧ w2 = w') := fun hlt => by
    have := stripe_any HH.out HBO.out ((k + st : Nat) : Int)
    rw [stripeF_new (by omega), show ((k + st : Nat) : Int) = (k : Int) + st by omega, Int.add_emod_right, ← hr] at this
    exact this
  have HST : Hid (∀ j : Nat, j < st → Calls Try.prog 19 #[.pointer (some ⟨g, 0, none⟩), .int .i64 j] w2 fun e w' => e = .returned (.int .i64 j) ∧ w2 = w') := fun j hj => by
    have := stripe_any HH.out HBO.out (j : Int)
    rw [stripeF_new (by omega), Int.emod_eq_of_lt (by omega) (by omega)] at this
    exact this
  have hisS : ∀ j : Nat, j < st → isS (newF L st limit) j = true := fun j hj => by rw [isS_iff, new_st]; omega
  have HOW : Hid (∀ j : Nat, j < st → Calls Try.prog 20 #[.pointer (some ⟨g, 0, none⟩), .int .i64 j] w2 fun e w' => e = .returned (.int .i64 (-1)) ∧ w2 = w') := fun j hj => by
    have := howner_any HH.out HBO.out (j : Int)
    rw [show ownerF (newF L st limit) (j : Int) = -1 by unfold ownerF; rw [if_pos (hisS j hj)]; exact new_owner (by omega) (by omega)] at this
    exact this
  have HVE : Hid (∀ j : Nat, j < st → Calls Try.prog 21 #[.pointer (some ⟨g, 0, none⟩), .int .i64 j] w2 fun e w' => e = .returned (.int .i64 0) ∧ w2 = w') := fun j hj => by
    have := hversion_any HH.out HBO.out (j : Int)
    rw [show versionF (newF L st limit) (j : Int) = 0 by unfold versionF; rw [if_pos (hisS j hj)]; exact new_version (by omega) (by omega)] at this
    exact this
  have hgl := HH.out.lt
  have HC : ∀ W, Below w2.heap.size w2 W → HeapAt W g (newF L st limit) := fun W b => HH.out.below b hgl
  have HLI : Hid (∀ W, Below w2.heap.size w2 W → Calls Try.prog 18 #[.pointer (some ⟨g, 0, none⟩)] W fun e w' => e = .returned (.int .i64 limit) ∧ W = w') := fun W b => by
    have := limit_any (HC W b)
    rw [new_limit] at this
    exact this
  have HCL : Hid (∀ W, Below w2.heap.size w2 W → Calls Try.prog 17 #[.pointer (some ⟨g, 0, none⟩)] W fun e w' => e = .returned (.int .i64 0) ∧ W = w') := fun W b => by
    have := clock_any (HC W b)
    rw [new_clock (by omega)] at this
    exact this
  obtain ⟨y, hy⟩ : ∃ y, y = L[k]'(by omega) := ⟨_, rfl⟩
  have HVA : Hid (∀ W, Below w2.heap.size w2 W → Calls Try.prog 22 #[.pointer (some ⟨g, 0, none⟩), .int .i64 k] W fun e w' => e = .returned (.int .i64 y) ∧ W = w') := fun W b => by
    have := value_any (HC W b) HBO.out (k : Int)
    rw [show valueF (newF L st limit) (k : Int) = y by unfold valueF; rw [if_pos (by rw [isV_iff, new_vars]; omega), hy]; exact new_value (by omega)] at this
    exact this
  have HVS : Hid (∀ W, Below w2.heap.size w2 W → Calls Try.prog 23 #[.pointer (some ⟨g, 0, none⟩)] W fun e w' => ∃ (A : Option Addr) (cap : Nat), e = .returned (.slice A L.length cap) ∧ Ints w' w'.heap.size A L ∧ Below w2.heap.size w2 w') := fun W b => by
    have := values_any (HC W b) HBO.out
    rw [new_values] at this
    exact this.mono fun e w' ⟨A, cap, h1, h2, _, h3⟩ => ⟨A, cap, h1, h2, b.trans (h3.mono b.size)⟩
  have HSM : Hid (∀ W A cap, Below w2.heap.size w2 W → Ints W W.heap.size A L → Calls Try.prog 34 #[.slice A L.length cap, .slice (some p) L.length c] W fun e w' => e = .returned (.bool true) ∧ Below w2.heap.size w2 w') := fun W A cap b hA => by
    have := values_same11 L L A (some p) cap c W.heap.size w2.heap.size W hA (HI2.out.below b (Nat.le_refl _)) (Nat.le_refl _) b.size
    rw [decide_eq_true rfl] at this
    exact this.mono fun e w' ⟨h1, h2⟩ => ⟨h1, b.trans (h2.mono b.size)⟩
  have HCB : Hid (∀ W, Below w2.heap.size w2 W → W.cell? (p.add k) = some (.int .i64 y) ∧ Below w2.heap.size w2 W) := fun W b => ⟨(b.cell (p := p.add k) (by rw [ad_block]; exact mp)).trans (by rw [hy]; exact hp), b⟩
  have k1 : (0 : Int) ≤ (k : Int) := by omega
  have k2 : (k : Int) < (L.length : Int) := by omega
  clear hr hp mp hgl HC hisS hy HI2 HI1 HOK HI
  by_cases hks : (k : Int) + st < L.length
  · have A1 := Lib.hid (HM.out hks)
    go_wp2_with fail
    refine A0.out.mono ?_
    rintro e w' ⟨rfl, rfl⟩
    dsimp only
    go_wp2_with fail
    refine A1.out.mono ?_
    rintro e w' ⟨rfl, rfl⟩
    dsimp only
    go_wp2_with fail
    refine A0.out.mono ?_
    rintro e w' ⟨rfl, rfl⟩
    dsimp only
    go_wp2_with fail
    refine A0.out.mono ?_
    rintro e w' ⟨rfl, rfl⟩
    dsimp only
    clear HM
    go_wp2_with fail
    go_loopw [11] (fun i wr => ∃ j : Nat, j ≤ st ∧ i = .int .i64 j ∧ w2 = wr) (fun i _ => st - (intOf i).toNat)
    case atStart => exact ⟨0, by omega, by go_num, rfl⟩
    case round =>
      obtain ⟨j, hj, rfl, rfl⟩ := hrel
      by_cases hlt : j < st
      · have i1 : (0 : Int) ≤ (j : Int) := by omega
        have i2 : (j : Int) < (st : Int) := by omega
        have A1 := Lib.hid (HST.out j hlt)
        have A2 := Lib.hid (HOW.out j hlt)
        have A3 := Lib.hid (HVE.out j hlt)
        go_wp2_with fail
        refine A1.out.mono ?_
        rintro e w' ⟨rfl, rfl⟩
        dsimp only
        go_wp2_with fail
        refine A2.out.mono ?_
        rintro e w' ⟨rfl, rfl⟩
        dsimp only
        go_wp2_with fail
        refine A3.out.mono ?_
        rintro e w' ⟨rfl, rfl⟩
        dsimp only
        go_wp2_with fail
        go_roundw
        case rel => exact ⟨j + 1, by omega, by go_num, trivial⟩
        case measure => simp [intOf]; omega
      · obtain rfl : j = st := by omega
        have i2 : ¬ (j : Int) < (j : Int) := by omega
        clear HST HOW HVE A0
        go_upto_region 14 with fail
        go_region_held3 (fun w' => w'.cell? (p.add k) = some (.int .i64 y) ∧ Below w2.heap.size w2 w')
          (first | exact HCB.out _ b6 | exact HCB.out _ b5 | exact HCB.out _ (Below.refl _ _).drew | go_keep)
          (first
            | (go_at_call 18; refine (HLI.out _ (by assumption)).mono ?_; rintro e w9 ⟨rfl, rfl⟩)
            | (go_at_call 17; refine (HCL.out _ (by assumption)).mono ?_; rintro e w8 ⟨rfl, rfl⟩)
            | (go_at_call 22; refine (HVA.out _ (by assumption)).mono ?_; rintro e w7 ⟨rfl, rfl⟩)
            | (go_at_call 34; refine (HSM.out _ _ _ (by assumption) hI5).mono ?_; rintro e w6 ⟨rfl, b6⟩)
            | (go_at_call 23; refine (HVS.out _ (Below.refl _ _).drew).mono ?_; rintro e w5 ⟨A5, cap5, rfl, hI5, b5⟩)
            | fail)
        have HB6 := Lib.hid (HB2.out.trans (b6.mono HB2.out.size))
        go_wp2_with fail
        go_ret
        exact ⟨rfl, HB6.out⟩
  · go_wp2_with fail
    refine A0.out.mono ?_
    rintro e w' ⟨rfl, rfl⟩
    dsimp only
    go_wp2_with fail
    refine A0.out.mono ?_
    rintro e w' ⟨rfl, rfl⟩
    dsimp only
    clear HM
    go_wp2_with fail
    go_loopw [11] (fun i wr => ∃ j : Nat, j ≤ st ∧ i = .int .i64 j ∧ w2 = wr) (fun i _ => st - (intOf i).toNat)
    case atStart => exact ⟨0, by omega, by go_num, rfl⟩
    case round =>
      obtain ⟨j, hj, rfl, rfl⟩ := hrel
      by_cases hlt : j < st
      · have i1 : (0 : Int) ≤ (j : Int) := by omega
        have i2 : (j : Int) < (st : Int) := by omega
        have A1 := Lib.hid (HST.out j hlt)
        have A2 := Lib.hid (HOW.out j hlt)
        have A3 := Lib.hid (HVE.out j hlt)
        go_wp2_with fail
        refine A1.out.mono ?_
        rintro e w' ⟨rfl, rfl⟩
        dsimp only
        go_wp2_with fail
        refine A2.out.mono ?_
        rintro e w' ⟨rfl, rfl⟩
        dsimp only
        go_wp2_with fail
        refine A3.out.mono ?_
        rintro e w' ⟨rfl, rfl⟩
        dsimp only
        go_wp2_with fail
        go_roundw
        case rel => exact ⟨j + 1, by omega, by go_num, trivial⟩
        case measure => simp [intOf]; omega
      · obtain rfl : j = st := by omega
        have i2 : ¬ (j : Int) < (j : Int) := by omega
        clear HST HOW HVE A0
        go_upto_region 14 with fail
        go_region_held3 (fun w' => w'.cell? (p.add k) = some (.int .i64 y) ∧ Below w2.heap.size w2 w')
          (first | exact HCB.out _ b6 | exact HCB.out _ b5 | exact HCB.out _ (Below.refl _ _).drew | go_keep)
          (first
            | (go_at_call 18; refine (HLI.out _ (by assumption)).mono ?_; rintro e w9 ⟨rfl, rfl⟩)
            | (go_at_call 17; refine (HCL.out _ (by assumption)).mono ?_; rintro e w8 ⟨rfl, rfl⟩)
            | (go_at_call 22; refine (HVA.out _ (by assumption)).mono ?_; rintro e w7 ⟨rfl, rfl⟩)
            | (go_at_call 34; refine (HSM.out _ _ _ (by assumption) hI5).mono ?_; rintro e w6 ⟨rfl, b6⟩)
            | (go_at_call 23; refine (HVS.out _ (Below.refl _ _).drew).mono ?_; rintro e w5 ⟨A5, cap5, rfl, hI5, b5⟩)
            | fail)
        have HB6 := Lib.hid (HB2.out.trans (b6.mono HB2.out.size))
        go_wp2_with fail
        go_ret
        exact ⟨rfl, HB6.out⟩
theorem HeapStripes_walk (A : Option Addr) (c : Nat) (L : List Int) (w : World) (hI : Ints w w.heap.size A L) (st : Int) (h1 : (Lit.int .i64 st).wf = true) (limit : Int) (h2 : (Lit.int .i64 limit).wf = true) (v : Int) (h3 : (Lit.int .i64 v).wf = true) :
    Calls Try.prog 8 #[.slice A L.length c, .int .i64 st, .int .i64 limit, .int .i64 v] w fun e w' => e = .returned (.bool true) ∧ Below w.heap.size w w' := by
  by_cases h : 100 < L.length
  · exact stripes_big A c L hI.len h st limit v w
  · cases hb : badH L.length st limit with
    | true => exact stripes_no A c L (by omega) st limit v hb w
    | false => exact stripes_yes A c L (by omega) st limit v hb w hI
theorem HeapStripes_laid : laidOutB Try.prog = true := by kernel_rfl
set_option maxRecDepth 100000 in
theorem HeapStripes_lifted (os : Os) (started : os.Started) (H : Type) (enc : TypeId × Value → H) :
    ReturnsInHanded {} Try.checked os 8 .any (Rows.heapStripesSpec.pre6 enc Try.prog Try.f8 Rows.heapStripesRow.domain false) (Rows.heapStripesSpec.post enc Try.prog Try.f8 false true false false) := by
  refine returnsInHanded_of_change (C := Try.checked) lift_own started (by kernel_rfl) Try.func8
    (ChangeSpec.witness6 (enc := enc) (C := Try.checked) false ⟨#[], #[.slice none 0 0, .int .i64 0, .int .i64 0, .int .i64 0], []⟩ 8 (by kernel_rfl) (by kernel_rfl) (by kernel_rfl) (by kernel_rfl)) ?_
  intro W base args ds gs before hval0 hW hcnd _
  have hval : ∀ (j : Nat) t v, Try.f8.params[j]? = some t → args[j]? = some v → Value.okWide Try.prog W .any base t v := hval0
  have hW' := hW
  obtain ⟨p, q, hA0, hV, rfl, hfz, hnd⟩ := hW
  have hA : DataW.TrodAll enc Try.prog W 0 (fun _ => true) true Try.f8.params.toList args.toList ds p := hA0
  rw [Try.params8] at hA hval
  obtain ⟨v0, vs0, d0, ds0, p0, q0, hargs, rfl, rfl, h0, r0⟩ := trodAll_cons hA
  obtain ⟨v1, vs1, d1, ds1, p1, q1, rfl, rfl, rfl, h1, r1⟩ := trodAll_cons r0
  obtain ⟨v2, vs2, d2, ds2, p2, q2, rfl, rfl, rfl, h2, r2⟩ := trodAll_cons r1
  obtain ⟨v3, vs3, d3, ds3, p3, q3, rfl, rfl, rfl, h3, r3⟩ := trodAll_cons r2
  obtain ⟨rfl, rfl, rfl⟩ := trodAll_nil r3
  obtain rfl : args = #[v0, v1, v2, v3] := by cases args; simp_all
  obtain ⟨rfl, rfl⟩ := trodVars_none hV
  obtain ⟨A0, c0, L0, rfl, hI0⟩ := open_nums (hval 0 33 v0 rfl rfl) h0
  obtain ⟨a1, rfl, rfl, rfl, w1⟩ := open_int Try.underlying3 (hval 1 3 v1 rfl rfl) h1
  obtain ⟨a2, rfl, rfl, rfl, w2⟩ := open_int Try.underlying3 (hval 2 3 v2 rfl rfl) h2
  obtain ⟨a3, rfl, rfl, rfl, w3⟩ := open_int Try.underlying3 (hval 3 3 v3 rfl rfl) h3
  clear hA0 hval0
  simp only [List.append_nil] at hW'
  refine (HeapStripes_walk A0 c0 L0 W hI0 a1 w1 a2 w2 a3 w3).mono fun e W' ⟨he, hg⟩ => ?_
  subst he
  exact ⟨_, rfl, lift_post (pv := []) hW' (fun _ _ _ => (trodAll_cons_mk (shut_bool Try.underlying4 _) trodAll_mk0)) (fun sp hsp => (trodAll_cons_mk (WideElems.Trod_stays HeapStripes_laid (by kernel_rfl) (of_decide_eq_true (by kernel_rfl)) h0 (fun x hx => hg.same (hW'.lt x (by simp [hx]))) (fun x hx => hsp x (by simp [hx]))) (trodAll_cons_mk (shut_int Try.underlying3 w1) (trodAll_cons_mk (shut_int Try.underlying3 w2) (trodAll_cons_mk (shut_int Try.underlying3 w3) trodAll_mk0))))) (fun _ _ => rfl) (by simp)
    hg (ok_one (by kernel_rfl) rfl (okWide_bool_mk Try.underlying4 _))⟩

/-- THE STATEMENT of HeapStripes: for every input the call returns true, and each argument reads behind it as before. -/
theorem HeapStripes_holds : Rows.HeapStripesSaid :=
  OpenClaim.holds_of_wide 8 Try.f8 rfl rfl rfl rfl rfl rfl rfl ⟨rfl, rfl, rfl, rfl, rfl⟩ rfl rfl rfl rfl rfl (by kernel_rfl) Try.func8 (by kernel_rfl)
    (of_decide_eq_true (by kernel_rfl)) (by unfold Func.isWrapper; first | (rw [if_pos (by decide +kernel)]; kernel_rfl) | (rw [if_neg (by decide +kernel)]; exact ⟨rfl, rfl⟩))
    (fun os started H enc _ => HeapStripes_lifted os started H enc)
end Go.Proofs.Ytokhcogmoleocaa
