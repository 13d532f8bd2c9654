/-
  HeapForth: for every input the call returns true, and each argument reads behind it as before. No condition. (The clock, and each version, never fall; no version is above the clock.) Laid by gen/gen_hf.py.
-/
import Derived.Test.YtokhcogmoleocaaHl
import Derived.Test.YtokhcogmoleocaaLift
namespace Go.Proofs.Ytokhcogmoleocaa
set_option maxRecDepth 100000
open Go.RowKit Go.Deep
open Go.ChangeShapes Go.WideShapes
set_option linter.unusedVariables false
set_option maxHeartbeats 4000000 in
theorem forth_big (A A' : Option Addr) (c c' : Nat) (n m : Nat) (hn : n ≤ 9223372036854775807) (hm : m ≤ 9223372036854775807) (h : 100 < n ∨ 300 < m) (st limit : Int) (w : World) : Calls Try.prog 6 #[.slice A n c, .int .i64 st, .int .i64 limit, .slice A' m c'] w fun e w' => e = .returned (.bool true) ∧ Below w.heap.size w w' := by
  by_cases h1 : 100 < n
  · have q1 : (100 : Int) < (n : Int) := by omega
    go_enter Try.func6, Try.ntmps6
    go_wp2_with fail
    refine (works11_any w).mono ?_
    rintro e w1 ⟨rfl, hb1⟩
    go_wp2_with fail
    refine (works11_any w1).mono ?_
    rintro e w2 ⟨rfl, hb2⟩
    have HB := Lib.hid (hb1.trans (hb2.mono hb1.size))
    clear hb1 hb2
    go_wp2_with fail
    go_ret
    exact ⟨rfl, HB.out⟩
  · have q1 : ¬ (100 : Int) < (n : Int) := by omega
    have q2 : (300 : Int) < (m : Int) := by omega
    go_enter Try.func6, Try.ntmps6
    go_wp2_with fail
    refine (works11_any w).mono ?_
    rintro e w1 ⟨rfl, hb1⟩
    go_wp2_with fail
    refine (works11_any w1).mono ?_
    rintro e w2 ⟨rfl, hb2⟩
    have HB := Lib.hid (hb1.trans (hb2.mono hb1.size))
    clear hb1 hb2
    go_wp2_with fail
    go_ret
    exact ⟨rfl, HB.out⟩
set_option maxHeartbeats 4000000 in
theorem forth_no {L : List Int} {st limit : Int} (hbad : badH L.length st limit = true) (A A' : Option Addr) (c c' : Nat) (m : Nat) (h1 : L.length ≤ 100) (h2 : m ≤ 300) (w : World) : Calls Try.prog 6 #[.slice A L.length c, .int .i64 st, .int .i64 limit, .slice A' m c'] w fun e w' => e = .returned (.bool true) ∧ Below w.heap.size w w' := by
  have q1 : ¬ (100 : Int) < (L.length : Int) := by omega
  have q2 : ¬ (300 : Int) < (m : Int) := by omega
  have HP := Lib.hid (played_no hbad A c (by omega) (.slice none 0 0))
  go_enter Try.func6, Try.ntmps6
  go_wp2_with fail
  refine (works11_any w).mono ?_
  rintro e w1 ⟨rfl, hb1⟩
  have HB := Lib.hid hb1
  clear hb1
  go_wp2_with fail
  refine (HP.out w1).mono ?_
  rintro e w' ⟨rfl, rfl⟩
  go_wp2_with fail
  go_ret
  exact ⟨rfl, HB.out⟩
set_option maxHeartbeats 16000000 in
theorem forth_yes {L : List Int} {st limit : Int} (hok : badH L.length st limit = false) {w : World} {A A' : Option Addr} (c c' : Nat) (hI : Ints w w.heap.size A L) {S : List S11} (hS : Steps11 w w.heap.size A' S) (h1 : L.length ≤ 100) (h2 : S.length ≤ 300) : Calls Try.prog 6 #[.slice A L.length c, .int .i64 st, .int .i64 limit, .slice A' S.length c'] w fun e w' => e = .returned (.bool true) ∧ Below w.heap.size w w' := by
  have q1 : ¬ (100 : Int) < (L.length : Int) := by omega
  have q2 : ¬ (300 : Int) < (S.length : Int) := by omega
  have HOK := Lib.hid hok
  have HBN := Lib.hid (HB.new hok)
  have HVN := Lib.hid (HV.new hok)
  have HI := Lib.hid hI
  have HS := Lib.hid hS
  obtain ⟨h3, h4, h5, h6, h7, h8⟩ := badH_no hok
  obtain ⟨st, rfl⟩ : ∃ s : Nat, st = s := ⟨st.toNat, by omega⟩
  have N0 : Hid (newF L st limit 0 = st) := new_st
  have N66 : Hid (newF L st limit 66 = limit) := new_limit
  have hst : st ≤ 32 := by omega
  clear hok hI hS h3 h4 h5 h6 h7 h8
  go_enter Try.func6, Try.ntmps6
  go_wp2_with fail
  refine (works11_any w).mono ?_
  rintro e w1 ⟨rfl, hb1⟩
  have HB := Lib.hid hb1
  have HI1 := Lib.hid (ints_up11 (HI.out.below hb1 (Nat.le_refl _)) hb1.size)
  clear hb1
  go_wp2_with fail
  refine (played_nil HOK.out c HI1.out).mono ?_
  rintro e w2 ⟨g, rfl, hH, hg, hb2⟩
  have HH := Lib.hid hH
  have HB2 := Lib.hid (HB.out.trans (hb2.mono HB.out.size))
  have HG : Hid (w.heap.size ≤ g) := by show _ ≤ _; have := HB.out.size; omega
  clear hH hb2 hg HB HI1 HI HOK
  go_wp2_with fail
  go_loopw [10] (fun i wr => ∃ (k : Nat) (f : Nat → Int), k ≤ S.length ∧ i = .int .i64 k ∧ Hid (HeapAt wr g f) ∧ Hid (HB f ∧ HV f ∧ f 0 = st ∧ f 66 = limit) ∧ Hid (Below w.heap.size w wr)) (fun i _ => S.length - (intOf i).toNat)
  case atStart => exact ⟨0, newF L st limit, by omega, by go_num, HH, ⟨HBN.out, HVN.out, N0.out, N66.out⟩, HB2⟩
  case round =>
    obtain ⟨k, f, hk, rfl, hH, hF, hB⟩ := hrel
    by_cases hlt : k < S.length
    · obtain ⟨p, rfl, mp, hs⟩ := HS.out k hlt
      have i1 : (0 : Int) ≤ (k : Int) := by omega
      have i2 : (k : Int) < (S.length : Int) := by omega
      have MP : Hid ((p.add (k * 5)).block < w.heap.size) := by show _ < _; rw [ad_block]; exact mp
      have HSK := Lib.hid hs
      obtain ⟨s, hs9⟩ : ∃ s, s = nth11 S k := ⟨_, rfl⟩
      rw [← hs9] at HSK
      clear hs mp hs9
      go_wp2_with fail
      refine (hcopy_any hH.out).mono ?_
      rintro e w3 ⟨rfl, hC, b3⟩
      obtain ⟨gw, hgw⟩ : ∃ gw, gw = wr.heap.size := ⟨_, rfl⟩
      have HGW : Hid (g < gw) := by show _ < _; rw [hgw]; exact hH.out.lt
      have HGWL : Hid (gw < w3.heap.size) := by show _ < _; rw [hgw]; exact hC.lt
      rw [← hgw] at hC ⊢
      have HC := Lib.hid hC
      have B3 := Lib.hid (hB.out.trans (b3.mono hB.out.size))
      have H3 := Lib.hid (hH.out.below b3 hH.out.lt)
      clear hC b3 hgw hH hB
      have hsw := HSK.out.below B3.out MP.out
      have e0 := hsw.c0
      have e1 := hsw.c1
      have e2 := hsw.c2
      have e3 := hsw.c3
      have e4 := hsw.c4
      have HD := Lib.hid (do_any H3.out hF.out.1 s)
      unfold S11.v at HD
      have HB4 := Lib.hid (hF.out.1.step s)
      have HV4 := Lib.hid (hF.out.2.1.step hF.out.1 s)
      have HCK := Lib.hid (doC_clock hF.out.1 s)
      have H0 : Hid (doC f s 0 = st) := (doC_keep hF.out.1 s (.inl rfl)).trans hF.out.2.2.1
      have H66 : Hid (doC f s 66 = limit) := (doC_keep hF.out.1 s (.inr (.inl rfl))).trans hF.out.2.2.2
      have HRF := Lib.hid (doC_refused (c := f) (s := s))
      obtain ⟨d, hd⟩ : ∃ d, d = doC f s := ⟨_, rfl⟩
      obtain ⟨er, her⟩ : ∃ er, er = doE f s := ⟨_, rfl⟩
      obtain ⟨nr, hnr⟩ : ∃ nr, nr = doN f s := ⟨_, rfl⟩
      rw [← hd, ← her, ← hnr] at HD
      rw [← hd] at HB4 HV4 HCK H0 H66
      rw [← hd, ← her] at HRF
      clear hsw HSK MP hd her hnr
      dsimp only
      go_wp2_with fail
      refine HD.out.mono ?_
      rintro e w4 ⟨rfl, hU⟩
      have H4 := Lib.hid hU.at'
      have C4 := Lib.hid (HC.out.same (hU.far gw (by have := HGW.out; omega) HGWL.out))
      have B4 := Lib.hid (B3.out.trans (hU.low _ HG.out))
      have T1 := Lib.hid (clock_any H4.out)
      have T2 := Lib.hid (clock_any C4.out)
      have T3 : Hid (∀ j : Nat, j < st → Calls Try.prog 21 #[.pointer (some ⟨g, 0, none⟩), .int .i64 j] w4 fun e w' => e = .returned (.int .i64 (d (33 + j))) ∧ w4 = w') := fun j hj => by
        have := hversion_any H4.out HB4.out (j : Int)
        rw [show versionF d (j : Int) = d (33 + j) from if_pos (by rw [isS_iff, H0.out]; omega)] at this
        exact this
      have T4 : Hid (∀ j : Nat, j < st → Calls Try.prog 21 #[.pointer (some ⟨gw, 0, none⟩), .int .i64 j] w4 fun e w' => e = .returned (.int .i64 (f (33 + j))) ∧ w4 = w') := fun j hj => by
        have := hversion_any C4.out hF.out.1 (j : Int)
        rw [show versionF f (j : Int) = f (33 + j) from if_pos (by rw [isS_iff, hF.out.2.2.1]; omega)] at this
        exact this
      obtain ⟨x1, hx1⟩ : ∃ x1, x1 = d 65 := ⟨_, rfl⟩
      obtain ⟨x0, hx0⟩ : ∃ x0, x0 = f 65 := ⟨_, rfl⟩
      have HX1 := Lib.hid hx1
      rw [← hx1] at T1
      rw [← hx0] at T2
      have z1 : ¬ x1 < x0 := by rw [hx1, hx0]; have := HCK.out.1; omega
      have z2 : ¬ limit < x1 := by rw [hx1, ← H66.out]; have := HB4.out.k2; omega
      have z3 : ¬ x0 + 1 < x1 := by rw [hx1, hx0]; have := HCK.out.2; omega
      have z4 : wrap64 (x0 + 1) = x0 + 1 := by
        have a1 := hF.out.1.k1
        have a2 := hF.out.1.k2
        have a3 := hF.out.1.k3
        rw [← hx0] at a1 a2
        unfold wrap64
        omega
      clear hU HC H3 B3 HD e0 e1 e2 e3 e4 hx1 hx0 HCK
      dsimp only
      go_wp2_with fail
      refine T1.out.mono ?_
      rintro e w' ⟨rfl, rfl⟩
      dsimp only
      go_wp2_with fail
      refine T2.out.mono ?_
      rintro e w' ⟨rfl, rfl⟩
      dsimp only
      go_wp2_with fail
      refine T1.out.mono ?_
      rintro e w' ⟨rfl, rfl⟩
      dsimp only
      go_wp2_with fail
      refine T1.out.mono ?_
      rintro e w' ⟨rfl, rfl⟩
      dsimp only
      by_cases her : er = 0
      · have qe : (er != 0) = false := bne_eq_false_iff_eq.2 her
        clear her
        go_wp2_with fail
        refine T2.out.mono ?_
        rintro e w' ⟨rfl, rfl⟩
        dsimp only
        go_wp2_with fail
        have B5 := B4
        have HW : Hid (w4 = w4) := rfl
        go_loopw [14] (fun i wr' => ∃ j : Nat, j ≤ st ∧ i = .int .i64 j ∧ w4 = wr') (fun i _ => st - (intOf i).toNat)
        case atStart => exact ⟨0, by omega, by go_num, rfl⟩
        case round =>
          obtain ⟨j, hj, rfl, rfl⟩ := hrel
          by_cases hjl : j < st
          · have i3 : (0 : Int) ≤ (j : Int) := by omega
            have i4 : (j : Int) < (st : Int) := by omega
            have A1 := Lib.hid (T3.out j hjl)
            have A2 := Lib.hid (T4.out j hjl)
            have v1 := HV4.out.2 j (by omega)
            have v2 := (HV4.out.1 j (by omega)).2
            obtain ⟨y1, hy1⟩ : ∃ y, y = d (33 + j) := ⟨_, rfl⟩
            obtain ⟨y0, hy0⟩ : ∃ y, y = f (33 + j) := ⟨_, rfl⟩
            rw [← hy1] at A1 v1 v2
            rw [← hy0] at A2 v1
            rw [← HX1.out] at v2
            have u1 : ¬ y1 < y0 := by omega
            have u2 : ¬ x1 < y1 := by omega
            clear hy1 hy0 v1 v2
            go_wp2_with fail
            refine A1.out.mono ?_
            rintro e w' ⟨rfl, rfl⟩
            dsimp only
            go_wp2_with fail
            refine A2.out.mono ?_
            rintro e w' ⟨rfl, rfl⟩
            dsimp only
            go_wp2_with fail
            refine A1.out.mono ?_
            rintro e w' ⟨rfl, rfl⟩
            dsimp only
            go_wp2_with fail
            refine T1.out.mono ?_
            rintro e w' ⟨rfl, rfl⟩
            dsimp only
            go_wp2_with fail
            go_roundw
            case rel => exact ⟨j + 1, by omega, by go_num, trivial⟩
            case measure => simp [intOf]; omega
          · obtain rfl : j = st := by omega
            have i4 : ¬ (j : Int) < (j : Int) := by omega
            have HFN : Hid (HB d ∧ HV d ∧ d 0 = j ∧ d 66 = limit) := ⟨HB4.out, HV4.out.1, H0.out, H66.out⟩
            clear T1 T3 T4
            go_wp2_with fail
            go_roundw
            case rel => exact ⟨k + 1, d, by omega, by go_num, H4, HFN, B5⟩
            case measure => simp [intOf]; omega
      · have qe : (er != 0) = true := bne_iff_ne.2 her
        have HSM := Lib.hid (same_any H4.out C4.out)
        have HEQ := Lib.hid (HRF.out her)
        clear her
        go_wp2_with fail
        refine T2.out.mono ?_
        rintro e w' ⟨rfl, rfl⟩
        dsimp only
        go_wp2_with fail
        refine HSM.out.mono ?_
        rintro e w5 ⟨r, rfl, hr, b5⟩
        obtain rfl : r = true := hr.2 (fun j _ => by rw [HEQ.out])
        have H5 := Lib.hid (H4.out.below b5 H4.out.lt)
        have C5 := Lib.hid (C4.out.below b5 C4.out.lt)
        have B5 := Lib.hid (B4.out.trans (b5.mono B4.out.size))
        clear hr b5 HSM HEQ H4 C4 B4 T1 T2 T3 T4
        have T3 : Hid (∀ j : Nat, j < st → Calls Try.prog 21 #[.pointer (some ⟨g, 0, none⟩), .int .i64 j] w5 fun e w' => e = .returned (.int .i64 (d (33 + j))) ∧ w5 = w') := fun j hj => by
          have := hversion_any H5.out HB4.out (j : Int)
          rw [show versionF d (j : Int) = d (33 + j) from if_pos (by rw [isS_iff, H0.out]; omega)] at this
          exact this
        have T4 : Hid (∀ j : Nat, j < st → Calls Try.prog 21 #[.pointer (some ⟨gw, 0, none⟩), .int .i64 j] w5 fun e w' => e = .returned (.int .i64 (f (33 + j))) ∧ w5 = w') := fun j hj => by
          have := hversion_any C5.out hF.out.1 (j : Int)
          rw [show versionF f (j : Int) = f (33 + j) from if_pos (by rw [isS_iff, hF.out.2.2.1]; omega)] at this
          exact this
        have T1 := Lib.hid (clock_any H5.out)
        rw [← HX1.out] at T1
        have H4 := H5
        dsimp only
        go_wp2_with fail
        go_loopw [14] (fun i wr' => ∃ j : Nat, j ≤ st ∧ i = .int .i64 j ∧ w5 = wr') (fun i _ => st - (intOf i).toNat)
        case atStart => exact ⟨0, by omega, by go_num, rfl⟩
        case round =>
          obtain ⟨j, hj, rfl, rfl⟩ := hrel
          by_cases hjl : j < st
          · have i3 : (0 : Int) ≤ (j : Int) := by omega
            have i4 : (j : Int) < (st : Int) := by omega
            have A1 := Lib.hid (T3.out j hjl)
            have A2 := Lib.hid (T4.out j hjl)
            have v1 := HV4.out.2 j (by omega)
            have v2 := (HV4.out.1 j (by omega)).2
            obtain ⟨y1, hy1⟩ : ∃ y, y = d (33 + j) := ⟨_, rfl⟩
            obtain ⟨y0, hy0⟩ : ∃ y, y = f (33 + j) := ⟨_, rfl⟩
            rw [← hy1] at A1 v1 v2
            rw [← hy0] at A2 v1
            rw [← HX1.out] at v2
            have u1 : ¬ y1 < y0 := by omega
            have u2 : ¬ x1 < y1 := by omega
            clear hy1 hy0 v1 v2
            go_wp2_with fail
            refine A1.out.mono ?_
            rintro e w' ⟨rfl, rfl⟩
            dsimp only
            go_wp2_with fail
            refine A2.out.mono ?_
            rintro e w' ⟨rfl, rfl⟩
            dsimp only
            go_wp2_with fail
            refine A1.out.mono ?_
            rintro e w' ⟨rfl, rfl⟩
            dsimp only
            go_wp2_with fail
            refine T1.out.mono ?_
            rintro e w' ⟨rfl, rfl⟩
            dsimp only
            go_wp2_with fail
            go_roundw
            case rel => exact ⟨j + 1, by omega, by go_num, trivial⟩
            case measure => simp [intOf]; omega
          · obtain rfl : j = st := by omega
            have i4 : ¬ (j : Int) < (j : Int) := by omega
            have HFN : Hid (HB d ∧ HV d ∧ d 0 = j ∧ d 66 = limit) := ⟨HB4.out, HV4.out.1, H0.out, H66.out⟩
            clear T1 T3 T4
            go_wp2_with fail
            go_roundw
            case rel => exact ⟨k + 1, d, by omega, by go_num, H4, HFN, B5⟩
            case measure => simp [intOf]; omega
    · obtain rfl : k = S.length := by omega
      have i2 : ¬ (S.length : Int) < (S.length : Int) := by omega
      go_wp2_with fail
      go_ret
      exact ⟨rfl, hB.out⟩
theorem HeapForth_walk (A : Option Addr) (c : Nat) (L : List Int) (w : World) (hI : Ints w w.heap.size A L) (st : Int) (h1 : (Lit.int .i64 st).wf = true) (limit : Int) (h2 : (Lit.int .i64 limit).wf = true) (A' : Option Addr) (c' : Nat) (S : List S11) (hn : S.length ≤ 9223372036854775807) (hS : Steps11 w w.heap.size A' S) :
    Calls Try.prog 6 #[.slice A L.length c, .int .i64 st, .int .i64 limit, .slice A' S.length c'] w fun e w' => e = .returned (.bool true) ∧ Below w.heap.size w w' := by
  by_cases h : 100 < L.length ∨ 300 < S.length
  · exact forth_big A A' c c' _ _ hI.len hn h st limit w
  · cases hb : badH L.length st limit with
    | true => exact forth_no hb A A' c c' _ (by omega) (by omega) w
    | false => exact forth_yes hb c c' hI hS (by omega) (by omega)
theorem HeapForth_laid : laidOutB Try.prog = true := by kernel_rfl
set_option maxRecDepth 100000 in
theorem HeapForth_lifted (os : Os) (started : os.Started) (H : Type) (enc : TypeId × Value → H) :
    ReturnsInHanded {} Try.checked os 6 .any (Rows.heapForthSpec.pre6 enc Try.prog Try.f6 Rows.heapForthRow.domain false) (Rows.heapForthSpec.post enc Try.prog Try.f6 false true false false) := by
  refine returnsInHanded_of_change (C := Try.checked) lift_own started (by kernel_rfl) Try.func6
    (ChangeSpec.witness6 (enc := enc) (C := Try.checked) false ⟨#[], #[.slice none 0 0, .int .i64 0, .int .i64 0, .slice none 0 0], []⟩ 8 (by kernel_rfl) (by kernel_rfl) (by kernel_rfl) (by kernel_rfl)) ?_
  intro W base args ds gs before hval0 hW hcnd _
  have hval : ∀ (j : Nat) t v, Try.f6.params[j]? = some t → args[j]? = some v → Value.okWide Try.prog W .any base t v := hval0
  have hW' := hW
  obtain ⟨p, q, hA0, hV, rfl, hfz, hnd⟩ := hW
  have hA : DataW.TrodAll enc Try.prog W 0 (fun _ => true) true Try.f6.params.toList args.toList ds p := hA0
  rw [Try.params6] at hA hval
  obtain ⟨v0, vs0, d0, ds0, p0, q0, hargs, rfl, rfl, h0, r0⟩ := trodAll_cons hA
  obtain ⟨v1, vs1, d1, ds1, p1, q1, rfl, rfl, rfl, h1, r1⟩ := trodAll_cons r0
  obtain ⟨v2, vs2, d2, ds2, p2, q2, rfl, rfl, rfl, h2, r2⟩ := trodAll_cons r1
  obtain ⟨v3, vs3, d3, ds3, p3, q3, rfl, rfl, rfl, h3, r3⟩ := trodAll_cons r2
  obtain ⟨rfl, rfl, rfl⟩ := trodAll_nil r3
  obtain rfl : args = #[v0, v1, v2, v3] := by cases args; simp_all
  obtain ⟨rfl, rfl⟩ := trodVars_none hV
  obtain ⟨A0, c0, L0, rfl, hI0⟩ := open_nums (hval 0 33 v0 rfl rfl) h0
  obtain ⟨a1, rfl, rfl, rfl, w1⟩ := open_int Try.underlying3 (hval 1 3 v1 rfl rfl) h1
  obtain ⟨a2, rfl, rfl, rfl, w2⟩ := open_int Try.underlying3 (hval 2 3 v2 rfl rfl) h2
  obtain ⟨A3, c3, L3, rfl, wl3, ws3⟩ := open_steps11 (hval 3 43 v3 rfl rfl) h3
  clear hA0 hval0
  simp only [List.append_nil] at hW'
  refine (HeapForth_walk A0 c0 L0 W hI0 a1 w1 a2 w2 A3 c3 L3 wl3 ws3).mono fun e W' ⟨he, hg⟩ => ?_
  subst he
  exact ⟨_, rfl, lift_post (pv := []) hW' (fun _ _ _ => (trodAll_cons_mk (shut_bool Try.underlying4 _) trodAll_mk0)) (fun sp hsp => (trodAll_cons_mk (WideElems.Trod_stays HeapForth_laid (by kernel_rfl) (of_decide_eq_true (by kernel_rfl)) h0 (fun x hx => hg.same (hW'.lt x (by simp [hx]))) (fun x hx => hsp x (by simp [hx]))) (trodAll_cons_mk (shut_int Try.underlying3 w1) (trodAll_cons_mk (shut_int Try.underlying3 w2) (trodAll_cons_mk (WideElems.Trod_stays HeapForth_laid (by kernel_rfl) (of_decide_eq_true (by kernel_rfl)) h3 (fun x hx => hg.same (hW'.lt x (by simp [hx]))) (fun x hx => hsp x (by simp [hx]))) trodAll_mk0))))) (fun _ _ => rfl) (by simp)
    hg (ok_one (by kernel_rfl) rfl (okWide_bool_mk Try.underlying4 _))⟩

/-- THE STATEMENT of HeapForth: for every input the call returns true, and each argument reads behind it as before. -/
theorem HeapForth_holds : Rows.HeapForthSaid :=
  OpenClaim.holds_of_wide 6 Try.f6 rfl rfl rfl rfl rfl rfl rfl ⟨rfl, rfl, rfl, rfl, rfl⟩ rfl rfl rfl rfl rfl (by kernel_rfl) Try.func6 (by kernel_rfl)
    (of_decide_eq_true (by kernel_rfl)) (by unfold Func.isWrapper; first | (rw [if_pos (by decide +kernel)]; kernel_rfl) | (rw [if_neg (by decide +kernel)]; exact ⟨rfl, rfl⟩))
    (fun os started H enc _ => HeapForth_lifted os started H enc)
end Go.Proofs.Ytokhcogmoleocaa
