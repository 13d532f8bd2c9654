/-
  ReadsetWakes: for every input the call returns true, and each argument reads behind it as before. No condition. (Who has read nothing never wakes; who may wake may, if more was read; only a stripe that may not be looked at, of those that were read, wakes.)
-/
import Derived.Test.YtdlikmekcgdmkaaGi
import Derived.Test.YtdlikmekcgdmkaaLift
namespace Go.Proofs.Ytdlikmekcgdmkaa
set_option maxRecDepth 100000
open Go.RowKit Go.Deep
open Go.ChangeShapes Go.WideShapes
set_option linter.unusedVariables false
theorem wake_none (rv : Int) (ow ve : List Int) : wakeF rv 32 (fun _ => false) ow ve = false := by
  unfold wakeF
  have : riseK (fun _ => false) (32 : Int).toNat = [] := by simp [riseK]
  rw [this]
  rfl
theorem riseK_mem {f : Nat → Bool} {k x : Nat} : x ∈ riseK f k ↔ x < k ∧ f x = true := by simp [riseK]
theorem wake_more (rv : Int) (L : List Int) (m : Int) (ow ve : List Int) (h : wakeF rv 32 (setOf L) ow ve = true) : wakeF rv 32 (setOf (L ++ [m])) ow ve = true := by
  unfold wakeF at *
  obtain ⟨x, hx, hw⟩ := List.any_eq_true.1 h
  refine List.any_eq_true.2 ⟨x, ?_, hw⟩
  rw [riseK_mem] at hx ⊢
  refine ⟨hx.1, ?_⟩
  rw [setOf_iff] at *
  exact ⟨(hx.2).1, by simp [(hx.2).2]⟩
theorem look_newer (r o v : Int) : (lookF r o v == 2) = (decide (o = -1) && decide (r < v)) := by
  unfold lookF
  by_cases e1 : o = -1
  · by_cases e2 : r < v
    · rw [if_neg (by omega), if_pos e2, decide_eq_true e1, decide_eq_true e2]; rfl
    · rw [if_neg (by omega), if_neg e2, decide_eq_true e1, decide_eq_false e2]; rfl
  · rw [if_pos e1, decide_eq_false e1]; rfl
set_option maxHeartbeats 4000000 in
theorem wakes_big (rv m : Int) (A0 A1 A2 : Option Addr) (c0 c1 c2 : Nat) (n0 n1 n2 : Nat) (h0 : n0 ≤ 9223372036854775807) (h1 : n1 ≤ 9223372036854775807) (h2 : n2 ≤ 9223372036854775807) (h : 100 < n0 ∨ 100 < n1 ∨ 100 < n2) (w : World) :
    Calls Try.prog 7 #[.int .i64 rv, .slice A0 n0 c0, .int .i64 m, .slice A1 n1 c1, .slice A2 n2 c2] w fun e w' => e = .returned (.bool true) ∧ Below w.heap.size w w' := by
  by_cases g0 : 100 < n0
  · have i0 : (100 : Int) < (n0 : Int) := by omega
    clear h
    go_enter Try.func7, Try.ntmps7
    go_wp2_with fail
    refine (awake10_any _).mono ?_
    rintro e w1 ⟨rfl, b1⟩
    go_wp2_with fail
    go_ret
    exact ⟨rfl, b1⟩
  have i0 : ¬ (100 : Int) < (n0 : Int) := by omega
  by_cases g1 : 100 < n1
  · have i1 : (100 : Int) < (n1 : Int) := by omega
    clear h
    go_enter Try.func7, Try.ntmps7
    go_wp2_with fail
    refine (awake10_any _).mono ?_
    rintro e w1 ⟨rfl, b1⟩
    go_wp2_with fail
    go_ret
    exact ⟨rfl, b1⟩
  have i1 : ¬ (100 : Int) < (n1 : Int) := by omega
  have i2 : (100 : Int) < (n2 : Int) := by omega
  clear h
  go_enter Try.func7, Try.ntmps7
  go_wp2_with fail
  refine (awake10_any _).mono ?_
  rintro e w1 ⟨rfl, b1⟩
  go_wp2_with fail
  go_ret
  exact ⟨rfl, b1⟩
set_option maxHeartbeats 8000000 in
theorem wakes_small (rv m : Int) (A0 A1 A2 : Option Addr) (c0 c1 c2 : Nat) (L ow ve : List Int) (h0 : L.length ≤ 100) (h1 : ow.length ≤ 100) (h2 : ve.length ≤ 100) (w : World) (hI : Ints w w.heap.size A0 L) (hA : Ints w w.heap.size A1 ow) (hB : Ints w w.heap.size A2 ve) :
    Calls Try.prog 7 #[.int .i64 rv, .slice A0 L.length c0, .int .i64 m, .slice A1 ow.length c1, .slice A2 ve.length c2] w fun e w' => e = .returned (.bool true) ∧ Below w.heap.size w w' := by
  have i0 : ¬ (100 : Int) < (L.length : Int) := by omega
  have i1 : ¬ (100 : Int) < (ow.length : Int) := by omega
  have i2 : ¬ (100 : Int) < (ve.length : Int) := by omega
  have HI := Lib.hid hI
  have HA := Lib.hid hA
  have HV := Lib.hid hB
  clear hI hA hB
  go_enter Try.func7, Try.ntmps7
  go_wp2_with fail
  refine (awake10_any _).mono ?_
  rintro e w1 ⟨rfl, b1⟩
  have B1 := Lib.hid b1
  clear b1
  go_wp2_with fail
  refine (made_nil rv w1).mono ?_
  rintro e w2 ⟨g2, rfl, hS2, hg2, b2⟩
  have B2 := Lib.hid (B1.out.trans (b2.mono B1.out.size))
  have HS2 := Lib.hid hS2
  clear b2 hS2 hg2 B1
  go_wp2_with fail
  refine (made_any rv (HI.out.at10 B2.out B2.out.size) (Nat.le_refl _) c0).mono ?_
  rintro e w3 ⟨g3, rfl, hS3, hg3, b3⟩
  have B3 := Lib.hid (B2.out.trans (b3.mono B2.out.size))
  have HS23 := Lib.hid (HS2.out.below b3)
  have HS3 := Lib.hid hS3
  clear b3 hS3 hg3 B2 HS2
  have h63 : Hid (w.heap.size ≤ w3.heap.size) := B3.out.size
  have HI3 := Lib.hid (HI.out.below B3.out (Nat.le_refl _))
  have i5 : 0 + L.length ≤ 100000 := by omega
  have OWE := Lib.hid (own_empty (w := w3) w3.heap.size (Nat.le_refl _))
  have hz3 : Hid (w3.heap.size ≤ (w3.alloc (.cells #[] 3)).heap.size) := by show _ ≤ _; simp
  have HI3a := Lib.hid (HI3.out.below ((Below.refl w.heap.size w3).alloc h63.out (.cells #[] 3)) (Nat.le_refl _))
  go_wp2_with (first
    | (at_builtin; refine append_num (v := m) own4 hz4 (by omega) rfl (.tmp 55) (.tmp 57) rfl rfl rfl ?_; intro g5 cap5 w5 own5 hg5 hl5)
    | (at_builtin; refine wpList_append_list OWE.out hz3.out HI3a.out i5 rfl (.tmp 53) (.tmp 54) rfl rfl rfl ?_; intro A4 c4 w4 own4 hg4; rw [Nat.zero_add, List.nil_append] at own4; have hz4 : w3.heap.size ≤ w4.heap.size := by have := hg4.size; simp at this; omega)
    | fail)
  have b35 : Below w3.heap.size w3 w5 := own_below (own4.alloc (.cells #[.int .i64 m] 3)) (Nat.le_refl _) ((own_below OWE.out (Nat.le_refl _) ((Below.refl _ _).alloc (Nat.le_refl _) _) hg4 hz3.out).alloc hz4 _) hg5 (by simp; omega)
  have own6 : w5.ownsRow w3.heap.size 3 1 (.slice (some ⟨g5, 0, none⟩) (L.length + 1) cap5) (L.length + 1) ((L ++ [m]).map (Value.int .i64 ·)) := by
    have e : vI L ++ [Value.int .i64 m] = (L ++ [m]).map (Value.int .i64 ·) := by simp [vI]
    rw [← e]
    exact own5
  obtain ⟨q1, q2, q3, hI5⟩ := Ints.of_own (L := L ++ [m]) own6 (by simp) (by simp; omega)
  injection q3 with q3 _ q4
  subst q3 q4
  have HM : Hid (Calls Try.prog 23 #[.int .i64 rv, .slice (some ⟨g5, 0, none⟩) (L.length + 1) cap5] w5 fun e w' => ∃ g, e = .returned (.tuple #[.pointer (some ⟨g, 0, none⟩), .bool true]) ∧ SetAt w' g (rvM rv) 32 (setOf (L ++ [m])) ∧ w5.heap.size ≤ g ∧ Below w5.heap.size w5 w') := by
    have h := made_any rv hI5 (Nat.le_refl _) cap5
    rw [show (L ++ [m]).length = L.length + 1 by simp] at h
    exact h
  have B5 := Lib.hid (B3.out.trans (b35.mono h63.out))
  have HS25 := Lib.hid (HS23.out.below b35)
  have HS35 := Lib.hid (HS3.out.below b35)
  clear own6 b35 hI5 own5 hg5 hl5 own4 hg4 hz4 OWE hz3 HI3a HI3 HS23 HS3 B3 h63 HI
  refine HM.out.mono ?_
  rintro e w6 ⟨g6, rfl, hS6, _, b6⟩
  have B6 := Lib.hid (B5.out.trans (b6.mono B5.out.size))
  have HS26 := Lib.hid (HS25.out.below b6)
  have HS36 := Lib.hid (HS35.out.below b6)
  have HS6 := Lib.hid hS6
  clear b6 hS6 HM HS25 HS35 B5
  dsimp only
  go_wp2_with fail
  refine (wakes_any HS26.out (HA.out.at10 B6.out B6.out.size) (HV.out.at10 B6.out B6.out.size) c1 c2).mono ?_
  rintro e w7 ⟨rfl, b7⟩
  rw [wake_none]
  have B7 := Lib.hid (B6.out.trans (b7.mono B6.out.size))
  have HS367 := Lib.hid (HS36.out.below b7)
  have HS67 := Lib.hid (HS6.out.below b7)
  clear b7 HS26 HS36 HS6 B6
  dsimp only
  go_wp2_with fail
  refine (wakes_any HS367.out (HA.out.at10 B7.out B7.out.size) (HV.out.at10 B7.out B7.out.size) c1 c2).mono ?_
  rintro e w8 ⟨rfl, b8⟩
  have B87 := Lib.hid (B7.out.trans (b8.mono B7.out.size))
  have HS378 := Lib.hid (HS367.out.below b8)
  have HS68 := Lib.hid (HS67.out.below b8)
  have HMO := Lib.hid (wake_more (rvM rv) L m ow ve)
  obtain ⟨bw, hbw⟩ : ∃ bw, bw = wakeF (rvM rv) 32 (setOf L) ow ve := ⟨_, rfl⟩
  have HB1 : Hid (bw = wakeF (rvM rv) 32 (setOf L) ow ve) := hbw
  rw [← hbw] at HMO ⊢
  clear b8 hbw HS367 HS67 B7
  cases bw with
  | true =>
    dsimp only
    go_wp2_with fail
    refine (wakes_any HS68.out (HA.out.at10 B87.out B87.out.size) (HV.out.at10 B87.out B87.out.size) c1 c2).mono ?_
    rintro e w88 ⟨rfl, b8⟩
    rw [HMO.out rfl]
    have B8 := Lib.hid (B87.out.trans (b8.mono B87.out.size))
    have HS37 := Lib.hid (HS378.out.below b8)
    clear b8 HMO HS68 HS378 B87
    dsimp only
    go_wp2_with fail
    refine (all_any HS37.out).mono ?_
    rintro e w9 ⟨A, c, rfl, hI9, _, b9⟩
    have B9 := Lib.hid (B8.out.trans (b9.mono B8.out.size))
    have HS9 := Lib.hid (HS37.out.below b9)
    have HS19 := HS9
    have hRl : (readF (setOf L) 32).length = (riseK (setOf L) 32).length := by simp [readF, natsI]
    rw [hRl]
    have hget : ∀ k (h : k < (riseK (setOf L) 32).length), ∃ p, A = some p ∧ p.block < w9.heap.size ∧ w9.cell? (p.add k) = some (.int .i64 ((riseK (setOf L) 32)[k] : Nat)) := fun k h => by
      obtain ⟨p, e, hm, hc⟩ := hI9.cell k (by rw [hRl]; exact h)
      refine ⟨p, e, hm, hc.trans ?_⟩
      simp [readF, natsI]
    have hRs : (riseK (setOf L) 32).length ≤ 32 := riseK_len _ _
    have HA9 := Lib.hid (HA.out.below B9.out (Nat.le_refl _))
    have HV9 := Lib.hid (HV.out.below B9.out (Nat.le_refl _))
    have HWK : Hid (wakeF (rvM rv) 32 (setOf L) ow ve = (riseK (setOf L) 32).any (wkF (rvM rv) ow ve)) := rfl
    obtain ⟨R, hR⟩ : ∃ R, R = riseK (setOf L) 32 := ⟨_, rfl⟩
    rw [← hR] at hget hRs HWK ⊢
    have HGET := Lib.hid hget
    have h93 : Hid (w.heap.size ≤ w9.heap.size) := B9.out.size
    obtain ⟨r, hr⟩ : ∃ r, r = rvM rv := ⟨_, rfl⟩
    rw [← hr] at HWK HS9 HB1
    clear b9 hI9 hRl hget hR HS37 B8 hr HA HV
    dsimp only
    go_wp2_with fail
    go_loopw [17, 19] (fun sm i wr => ∃ (k : Nat) (bk : Bool), k ≤ R.length ∧ sm = .bool bk ∧ i = .int .i64 k ∧ Hid (bk = (R.take k).any (wkF r ow ve)) ∧ Hid (Below w9.heap.size w9 wr)) (fun _ i _ => R.length - (intOf i).toNat)
    case atStart => exact ⟨0, false, by omega, rfl, by go_num, rfl, Below.refl _ _⟩
    case round =>
      obtain ⟨k, bk, hk, rfl, rfl, hbk, hB⟩ := hrel
      by_cases hlt : k < R.length
      · obtain ⟨p, rfl, hm, hc⟩ := HGET.out k hlt
        have d1 := (hB.out.cell (p := p.add k) (by rw [ad_block]; exact hm)).trans hc
        have ht : (R.take (k + 1)).any (wkF r ow ve) = (bk || wkF r ow ve R[k]) := by
          rw [List.take_succ_eq_append_getElem hlt, List.any_append, ← hbk.out]
          simp
        obtain ⟨x, hx⟩ : ∃ x, x = R[k] := ⟨_, rfl⟩
        rw [← hx] at d1 ht
        have hwx : wkF r ow ve x = (decide (atF ow x (-1) = -1) && decide (r < atF ve x 0)) := rfl
        obtain ⟨bq, hbq⟩ : ∃ bq, bq = wkF r ow ve x := ⟨_, rfl⟩
        rw [← hbq] at ht hwx
        have HT := Lib.hid ht
        have i3 : (0 : Int) ≤ (k : Int) := by omega
        have i4 : (k : Int) < (R.length : Int) := by omega
        have i5 : (0 : Int) ≤ (x : Int) := by omega
        have HSR := Lib.hid (HS9.out.below hB.out)
        clear hc hm hx hbq ht hbk
        by_cases ho : x < ow.length
        · obtain ⟨po, rfl, hmo, hco⟩ := HA9.out.cell x ho
          have d2 := (hB.out.cell (p := po.add x) (by rw [ad_block]; have := h93.out; omega)).trans hco
          have ho1 : atF ow x (-1) = ow[x] := by unfold atF; rw [List.getElem?_eq_getElem ho]; rfl
          rw [← ho1] at d2
          obtain ⟨o, hoe⟩ : ∃ o, o = atF ow x (-1) := ⟨_, rfl⟩
          rw [← hoe] at d2 hwx
          have i6 : (x : Int) < (ow.length : Int) := by omega
          clear hmo hco ho1 hoe
          by_cases hv : x < ve.length
          · obtain ⟨pv, rfl, hmv, hcv⟩ := HV9.out.cell x hv
            have d3 := (hB.out.cell (p := pv.add x) (by rw [ad_block]; have := h93.out; omega)).trans hcv
            have hv1 : atF ve x 0 = ve[x] := by unfold atF; rw [List.getElem?_eq_getElem hv]; rfl
            rw [← hv1] at d3
            obtain ⟨v, hve⟩ : ∃ v, v = atF ve x 0 := ⟨_, rfl⟩
            rw [← hve] at d3 hwx
            have i7 : (x : Int) < (ve.length : Int) := by omega
            clear hmv hcv hv1 hve
            have hq : (lookF r o v == 2) = bq := (look_newer r o v).trans hwx.symm
            clear hwx
            cases bk with
            | true =>
              have HT2 : Hid (true = (R.take (k + 1)).any (wkF r ow ve)) := by show _ = _; rw [HT.out]; rfl
              clear HT
              go_wp2_with fail
              go_roundw
              case rel => exact ⟨k + 1, true, by omega, rfl, by go_num, HT2, hB⟩
              case measure => simp [intOf]; omega
            | false =>
              have HT2 : Hid (bq = (R.take (k + 1)).any (wkF r ow ve)) := by show _ = _; rw [HT.out]; rfl
              clear HT
              go_wp2_with fail
              refine (look_any HSR.out o v).mono ?_
              rintro e w' ⟨rfl, rfl⟩
              dsimp only
              go_wp2_with fail
              go_roundw
              case rel => exact ⟨k + 1, bq, by omega, rfl, by go_num, HT2, hB⟩
              case measure => simp [intOf]; omega
          · have hv1 : atF ve x 0 = 0 := by unfold atF; rw [List.getElem?_eq_none (by omega)]; rfl
            rw [hv1] at hwx
            have i7 : ¬ (x : Int) < (ve.length : Int) := by omega
            clear hv1
            have hq : (lookF r o 0 == 2) = bq := (look_newer r o 0).trans hwx.symm
            clear hwx
            cases bk with
            | true =>
              have HT2 : Hid (true = (R.take (k + 1)).any (wkF r ow ve)) := by show _ = _; rw [HT.out]; rfl
              clear HT
              go_wp2_with fail
              go_roundw
              case rel => exact ⟨k + 1, true, by omega, rfl, by go_num, HT2, hB⟩
              case measure => simp [intOf]; omega
            | false =>
              have HT2 : Hid (bq = (R.take (k + 1)).any (wkF r ow ve)) := by show _ = _; rw [HT.out]; rfl
              clear HT
              go_wp2_with fail
              refine (look_any HSR.out o 0).mono ?_
              rintro e w' ⟨rfl, rfl⟩
              dsimp only
              go_wp2_with fail
              go_roundw
              case rel => exact ⟨k + 1, bq, by omega, rfl, by go_num, HT2, hB⟩
              case measure => simp [intOf]; omega
        · have ho1 : atF ow x (-1) = -1 := by unfold atF; rw [List.getElem?_eq_none (by omega)]; rfl
          rw [ho1] at hwx
          have i6 : ¬ (x : Int) < (ow.length : Int) := by omega
          clear ho1
          by_cases hv : x < ve.length
          · obtain ⟨pv, rfl, hmv, hcv⟩ := HV9.out.cell x hv
            have d3 := (hB.out.cell (p := pv.add x) (by rw [ad_block]; have := h93.out; omega)).trans hcv
            have hv1 : atF ve x 0 = ve[x] := by unfold atF; rw [List.getElem?_eq_getElem hv]; rfl
            rw [← hv1] at d3
            obtain ⟨v, hve⟩ : ∃ v, v = atF ve x 0 := ⟨_, rfl⟩
            rw [← hve] at d3 hwx
            have i7 : (x : Int) < (ve.length : Int) := by omega
            clear hmv hcv hv1 hve
            have hq : (lookF r (-1) v == 2) = bq := (look_newer r (-1) v).trans hwx.symm
            clear hwx
            cases bk with
            | true =>
              have HT2 : Hid (true = (R.take (k + 1)).any (wkF r ow ve)) := by show _ = _; rw [HT.out]; rfl
              clear HT
              go_wp2_with fail
              go_roundw
              case rel => exact ⟨k + 1, true, by omega, rfl, by go_num, HT2, hB⟩
              case measure => simp [intOf]; omega
            | false =>
              have HT2 : Hid (bq = (R.take (k + 1)).any (wkF r ow ve)) := by show _ = _; rw [HT.out]; rfl
              clear HT
              go_wp2_with fail
              refine (look_any HSR.out (-1) v).mono ?_
              rintro e w' ⟨rfl, rfl⟩
              dsimp only
              go_wp2_with fail
              go_roundw
              case rel => exact ⟨k + 1, bq, by omega, rfl, by go_num, HT2, hB⟩
              case measure => simp [intOf]; omega
          · have hv1 : atF ve x 0 = 0 := by unfold atF; rw [List.getElem?_eq_none (by omega)]; rfl
            rw [hv1] at hwx
            have i7 : ¬ (x : Int) < (ve.length : Int) := by omega
            clear hv1
            have hq : (lookF r (-1) 0 == 2) = bq := (look_newer r (-1) 0).trans hwx.symm
            clear hwx
            cases bk with
            | true =>
              have HT2 : Hid (true = (R.take (k + 1)).any (wkF r ow ve)) := by show _ = _; rw [HT.out]; rfl
              clear HT
              go_wp2_with fail
              go_roundw
              case rel => exact ⟨k + 1, true, by omega, rfl, by go_num, HT2, hB⟩
              case measure => simp [intOf]; omega
            | false =>
              have HT2 : Hid (bq = (R.take (k + 1)).any (wkF r ow ve)) := by show _ = _; rw [HT.out]; rfl
              clear HT
              go_wp2_with fail
              refine (look_any HSR.out (-1) 0).mono ?_
              rintro e w' ⟨rfl, rfl⟩
              dsimp only
              go_wp2_with fail
              go_roundw
              case rel => exact ⟨k + 1, bq, by omega, rfl, by go_num, HT2, hB⟩
              case measure => simp [intOf]; omega
      · obtain rfl : k = R.length := by omega
        have hb9 : bk = R.any (wkF r ow ve) := by have := hbk.out; rwa [List.take_length] at this
        have HBK : Hid (bk = wakeF r 32 (setOf L) ow ve) := by show _ = _; rw [HWK.out]; exact hb9
        clear hb9 hbk
        go_wp2_with fail
        refine (wakes_any (HS9.out.below hB.out) (HA9.out.at10 ((hB.out).mono h93.out) (by have := hB.out.size; have := h93.out; omega)) (HV9.out.at10 ((hB.out).mono h93.out) (by have := hB.out.size; have := h93.out; omega)) c1 c2).mono ?_
        rintro e w10 ⟨rfl, b10⟩
        rw [← HBK.out]
        have B10 := Lib.hid (B9.out.trans ((hB.out.mono h93.out).trans (b10.mono (by have := hB.out.size; have := h93.out; omega))))
        clear b10 HBK
        have hbb : (bk == bk) = true := beq_self_eq_true bk
        dsimp only
        go_wp2_with fail
        go_ret
        exact ⟨by simp, B10.out⟩
  | false =>
    have B8 := B87
    have HS37 := HS378
    clear HMO HS68 HS378 B87
    dsimp only
    go_wp2_with fail
    refine (all_any HS37.out).mono ?_
    rintro e w9 ⟨A, c, rfl, hI9, _, b9⟩
    have B9 := Lib.hid (B8.out.trans (b9.mono B8.out.size))
    have HS9 := Lib.hid (HS37.out.below b9)
    have HS19 := HS9
    have hRl : (readF (setOf L) 32).length = (riseK (setOf L) 32).length := by simp [readF, natsI]
    rw [hRl]
    have hget : ∀ k (h : k < (riseK (setOf L) 32).length), ∃ p, A = some p ∧ p.block < w9.heap.size ∧ w9.cell? (p.add k) = some (.int .i64 ((riseK (setOf L) 32)[k] : Nat)) := fun k h => by
      obtain ⟨p, e, hm, hc⟩ := hI9.cell k (by rw [hRl]; exact h)
      refine ⟨p, e, hm, hc.trans ?_⟩
      simp [readF, natsI]
    have hRs : (riseK (setOf L) 32).length ≤ 32 := riseK_len _ _
    have HA9 := Lib.hid (HA.out.below B9.out (Nat.le_refl _))
    have HV9 := Lib.hid (HV.out.below B9.out (Nat.le_refl _))
    have HWK : Hid (wakeF (rvM rv) 32 (setOf L) ow ve = (riseK (setOf L) 32).any (wkF (rvM rv) ow ve)) := rfl
    obtain ⟨R, hR⟩ : ∃ R, R = riseK (setOf L) 32 := ⟨_, rfl⟩
    rw [← hR] at hget hRs HWK ⊢
    have HGET := Lib.hid hget
    have h93 : Hid (w.heap.size ≤ w9.heap.size) := B9.out.size
    obtain ⟨r, hr⟩ : ∃ r, r = rvM rv := ⟨_, rfl⟩
    rw [← hr] at HWK HS9 HB1
    clear b9 hI9 hRl hget hR HS37 B8 hr HA HV
    dsimp only
    go_wp2_with fail
    go_loopw [17, 19] (fun sm i wr => ∃ (k : Nat) (bk : Bool), k ≤ R.length ∧ sm = .bool bk ∧ i = .int .i64 k ∧ Hid (bk = (R.take k).any (wkF r ow ve)) ∧ Hid (Below w9.heap.size w9 wr)) (fun _ i _ => R.length - (intOf i).toNat)
    case atStart => exact ⟨0, false, by omega, rfl, by go_num, rfl, Below.refl _ _⟩
    case round =>
      obtain ⟨k, bk, hk, rfl, rfl, hbk, hB⟩ := hrel
      by_cases hlt : k < R.length
      · obtain ⟨p, rfl, hm, hc⟩ := HGET.out k hlt
        have d1 := (hB.out.cell (p := p.add k) (by rw [ad_block]; exact hm)).trans hc
        have ht : (R.take (k + 1)).any (wkF r ow ve) = (bk || wkF r ow ve R[k]) := by
          rw [List.take_succ_eq_append_getElem hlt, List.any_append, ← hbk.out]
          simp
        obtain ⟨x, hx⟩ : ∃ x, x = R[k] := ⟨_, rfl⟩
        rw [← hx] at d1 ht
        have hwx : wkF r ow ve x = (decide (atF ow x (-1) = -1) && decide (r < atF ve x 0)) := rfl
        obtain ⟨bq, hbq⟩ : ∃ bq, bq = wkF r ow ve x := ⟨_, rfl⟩
        rw [← hbq] at ht hwx
        have HT := Lib.hid ht
        have i3 : (0 : Int) ≤ (k : Int) := by omega
        have i4 : (k : Int) < (R.length : Int) := by omega
        have i5 : (0 : Int) ≤ (x : Int) := by omega
        have HSR := Lib.hid (HS9.out.below hB.out)
        clear hc hm hx hbq ht hbk
        by_cases ho : x < ow.length
        · obtain ⟨po, rfl, hmo, hco⟩ := HA9.out.cell x ho
          have d2 := (hB.out.cell (p := po.add x) (by rw [ad_block]; have := h93.out; omega)).trans hco
          have ho1 : atF ow x (-1) = ow[x] := by unfold atF; rw [List.getElem?_eq_getElem ho]; rfl
          rw [← ho1] at d2
          obtain ⟨o, hoe⟩ : ∃ o, o = atF ow x (-1) := ⟨_, rfl⟩
          rw [← hoe] at d2 hwx
          have i6 : (x : Int) < (ow.length : Int) := by omega
          clear hmo hco ho1 hoe
          by_cases hv : x < ve.length
          · obtain ⟨pv, rfl, hmv, hcv⟩ := HV9.out.cell x hv
            have d3 := (hB.out.cell (p := pv.add x) (by rw [ad_block]; have := h93.out; omega)).trans hcv
            have hv1 : atF ve x 0 = ve[x] := by unfold atF; rw [List.getElem?_eq_getElem hv]; rfl
            rw [← hv1] at d3
            obtain ⟨v, hve⟩ : ∃ v, v = atF ve x 0 := ⟨_, rfl⟩
            rw [← hve] at d3 hwx
            have i7 : (x : Int) < (ve.length : Int) := by omega
            clear hmv hcv hv1 hve
            have hq : (lookF r o v == 2) = bq := (look_newer r o v).trans hwx.symm
            clear hwx
            cases bk with
            | true =>
              have HT2 : Hid (true = (R.take (k + 1)).any (wkF r ow ve)) := by show _ = _; rw [HT.out]; rfl
              clear HT
              go_wp2_with fail
              go_roundw
              case rel => exact ⟨k + 1, true, by omega, rfl, by go_num, HT2, hB⟩
              case measure => simp [intOf]; omega
            | false =>
              have HT2 : Hid (bq = (R.take (k + 1)).any (wkF r ow ve)) := by show _ = _; rw [HT.out]; rfl
              clear HT
              go_wp2_with fail
              refine (look_any HSR.out o v).mono ?_
              rintro e w' ⟨rfl, rfl⟩
              dsimp only
              go_wp2_with fail
              go_roundw
              case rel => exact ⟨k + 1, bq, by omega, rfl, by go_num, HT2, hB⟩
              case measure => simp [intOf]; omega
          · have hv1 : atF ve x 0 = 0 := by unfold atF; rw [List.getElem?_eq_none (by omega)]; rfl
            rw [hv1] at hwx
            have i7 : ¬ (x : Int) < (ve.length : Int) := by omega
            clear hv1
            have hq : (lookF r o 0 == 2) = bq := (look_newer r o 0).trans hwx.symm
            clear hwx
            cases bk with
            | true =>
              have HT2 : Hid (true = (R.take (k + 1)).any (wkF r ow ve)) := by show _ = _; rw [HT.out]; rfl
              clear HT
              go_wp2_with fail
              go_roundw
              case rel => exact ⟨k + 1, true, by omega, rfl, by go_num, HT2, hB⟩
              case measure => simp [intOf]; omega
            | false =>
              have HT2 : Hid (bq = (R.take (k + 1)).any (wkF r ow ve)) := by show _ = _; rw [HT.out]; rfl
              clear HT
              go_wp2_with fail
              refine (look_any HSR.out o 0).mono ?_
              rintro e w' ⟨rfl, rfl⟩
              dsimp only
              go_wp2_with fail
              go_roundw
              case rel => exact ⟨k + 1, bq, by omega, rfl, by go_num, HT2, hB⟩
              case measure => simp [intOf]; omega
        · have ho1 : atF ow x (-1) = -1 := by unfold atF; rw [List.getElem?_eq_none (by omega)]; rfl
          rw [ho1] at hwx
          have i6 : ¬ (x : Int) < (ow.length : Int) := by omega
          clear ho1
          by_cases hv : x < ve.length
          · obtain ⟨pv, rfl, hmv, hcv⟩ := HV9.out.cell x hv
            have d3 := (hB.out.cell (p := pv.add x) (by rw [ad_block]; have := h93.out; omega)).trans hcv
            have hv1 : atF ve x 0 = ve[x] := by unfold atF; rw [List.getElem?_eq_getElem hv]; rfl
            rw [← hv1] at d3
            obtain ⟨v, hve⟩ : ∃ v, v = atF ve x 0 := ⟨_, rfl⟩
            rw [← hve] at d3 hwx
            have i7 : (x : Int) < (ve.length : Int) := by omega
            clear hmv hcv hv1 hve
            have hq : (lookF r (-1) v == 2) = bq := (look_newer r (-1) v).trans hwx.symm
            clear hwx
            cases bk with
            | true =>
              have HT2 : Hid (true = (R.take (k + 1)).any (wkF r ow ve)) := by show _ = _; rw [HT.out]; rfl
              clear HT
              go_wp2_with fail
              go_roundw
              case rel => exact ⟨k + 1, true, by omega, rfl, by go_num, HT2, hB⟩
              case measure => simp [intOf]; omega
            | false =>
              have HT2 : Hid (bq = (R.take (k + 1)).any (wkF r ow ve)) := by show _ = _; rw [HT.out]; rfl
              clear HT
              go_wp2_with fail
              refine (look_any HSR.out (-1) v).mono ?_
              rintro e w' ⟨rfl, rfl⟩
              dsimp only
              go_wp2_with fail
              go_roundw
              case rel => exact ⟨k + 1, bq, by omega, rfl, by go_num, HT2, hB⟩
              case measure => simp [intOf]; omega
          · have hv1 : atF ve x 0 = 0 := by unfold atF; rw [List.getElem?_eq_none (by omega)]; rfl
            rw [hv1] at hwx
            have i7 : ¬ (x : Int) < (ve.length : Int) := by omega
            clear hv1
            have hq : (lookF r (-1) 0 == 2) = bq := (look_newer r (-1) 0).trans hwx.symm
            clear hwx
            cases bk with
            | true =>
              have HT2 : Hid (true = (R.take (k + 1)).any (wkF r ow ve)) := by show _ = _; rw [HT.out]; rfl
              clear HT
              go_wp2_with fail
              go_roundw
              case rel => exact ⟨k + 1, true, by omega, rfl, by go_num, HT2, hB⟩
              case measure => simp [intOf]; omega
            | false =>
              have HT2 : Hid (bq = (R.take (k + 1)).any (wkF r ow ve)) := by show _ = _; rw [HT.out]; rfl
              clear HT
              go_wp2_with fail
              refine (look_any HSR.out (-1) 0).mono ?_
              rintro e w' ⟨rfl, rfl⟩
              dsimp only
              go_wp2_with fail
              go_roundw
              case rel => exact ⟨k + 1, bq, by omega, rfl, by go_num, HT2, hB⟩
              case measure => simp [intOf]; omega
      · obtain rfl : k = R.length := by omega
        have hb9 : bk = R.any (wkF r ow ve) := by have := hbk.out; rwa [List.take_length] at this
        have HBK : Hid (bk = wakeF r 32 (setOf L) ow ve) := by show _ = _; rw [HWK.out]; exact hb9
        clear hb9 hbk
        go_wp2_with fail
        refine (wakes_any (HS9.out.below hB.out) (HA9.out.at10 ((hB.out).mono h93.out) (by have := hB.out.size; have := h93.out; omega)) (HV9.out.at10 ((hB.out).mono h93.out) (by have := hB.out.size; have := h93.out; omega)) c1 c2).mono ?_
        rintro e w10 ⟨rfl, b10⟩
        rw [← HBK.out]
        have B10 := Lib.hid (B9.out.trans ((hB.out.mono h93.out).trans (b10.mono (by have := hB.out.size; have := h93.out; omega))))
        clear b10 HBK
        have hbb : (bk == bk) = true := beq_self_eq_true bk
        dsimp only
        go_wp2_with fail
        go_ret
        exact ⟨by simp, B10.out⟩
theorem ReadsetWakes_walk (rv : Int) (h0 : (Lit.int .i64 rv).wf = true) (A1 : Option Addr) (c1 : Nat) (L1 : List Int) (w : World) (hI1 : Ints w w.heap.size A1 L1) (m : Int) (h2 : (Lit.int .i64 m).wf = true) (A3 : Option Addr) (c3 : Nat) (L3 : List Int) (hI3 : Ints w w.heap.size A3 L3) (A4 : Option Addr) (c4 : Nat) (L4 : List Int) (hI4 : Ints w w.heap.size A4 L4) :
    Calls Try.prog 7 #[.int .i64 rv, .slice A1 L1.length c1, .int .i64 m, .slice A3 L3.length c3, .slice A4 L4.length c4] w fun e w' => e = .returned (.bool true) ∧ Below w.heap.size w w' := by
  by_cases h : 100 < L1.length ∨ 100 < L3.length ∨ 100 < L4.length
  · exact wakes_big rv m A1 A3 A4 c1 c3 c4 _ _ _ hI1.len hI3.len hI4.len h w
  · exact wakes_small rv m A1 A3 A4 c1 c3 c4 L1 L3 L4 (by omega) (by omega) (by omega) w hI1 hI3 hI4
theorem ReadsetWakes_laid : laidOutB Try.prog = true := by kernel_rfl
set_option maxRecDepth 100000 in
theorem ReadsetWakes_lifted (os : Os) (started : os.Started) (H : Type) (enc : TypeId × Value → H) :
    ReturnsInHanded {} Try.checked os 7 .any (Rows.readsetWakesSpec.pre6 enc Try.prog Try.f7 Rows.readsetWakesRow.domain false) (Rows.readsetWakesSpec.post enc Try.prog Try.f7 false true false false) := by
  refine returnsInHanded_of_change (C := Try.checked) lift_own started (by kernel_rfl) Try.func7
    (ChangeSpec.witness6 (enc := enc) (C := Try.checked) false ⟨#[], #[.int .i64 0, .slice none 0 0, .int .i64 0, .slice none 0 0, .slice none 0 0], []⟩ 8 (by kernel_rfl) (by kernel_rfl) (by kernel_rfl) (by kernel_rfl)) ?_
  intro W base args ds gs before hval0 hW hcnd _
  have hval : ∀ (j : Nat) t v, Try.f7.params[j]? = some t → args[j]? = some v → Value.okWide Try.prog W .any base t v := hval0
  have hW' := hW
  obtain ⟨p, q, hA0, hV, rfl, hfz, hnd⟩ := hW
  have hA : DataW.TrodAll enc Try.prog W 0 (fun _ => true) true Try.f7.params.toList args.toList ds p := hA0
  rw [Try.params7] at hA hval
  obtain ⟨v0, vs0, d0, ds0, p0, q0, hargs, rfl, rfl, h0, r0⟩ := trodAll_cons hA
  obtain ⟨v1, vs1, d1, ds1, p1, q1, rfl, rfl, rfl, h1, r1⟩ := trodAll_cons r0
  obtain ⟨v2, vs2, d2, ds2, p2, q2, rfl, rfl, rfl, h2, r2⟩ := trodAll_cons r1
  obtain ⟨v3, vs3, d3, ds3, p3, q3, rfl, rfl, rfl, h3, r3⟩ := trodAll_cons r2
  obtain ⟨v4, vs4, d4, ds4, p4, q4, rfl, rfl, rfl, h4, r4⟩ := trodAll_cons r3
  obtain ⟨rfl, rfl, rfl⟩ := trodAll_nil r4
  obtain rfl : args = #[v0, v1, v2, v3, v4] := by cases args; simp_all
  obtain ⟨rfl, rfl⟩ := trodVars_none hV
  obtain ⟨a0, rfl, rfl, rfl, w0⟩ := open_int Try.underlying3 (hval 0 3 v0 rfl rfl) h0
  obtain ⟨A1, c1, L1, rfl, hI1⟩ := open_nums10 (hval 1 22 v1 rfl rfl) h1
  obtain ⟨a2, rfl, rfl, rfl, w2⟩ := open_int Try.underlying3 (hval 2 3 v2 rfl rfl) h2
  obtain ⟨A3, c3, L3, rfl, hI3⟩ := open_nums10 (hval 3 22 v3 rfl rfl) h3
  obtain ⟨A4, c4, L4, rfl, hI4⟩ := open_nums10 (hval 4 22 v4 rfl rfl) h4
  clear hA0 hval0
  simp only [List.append_nil, List.nil_append] at hW'
  refine (ReadsetWakes_walk a0 w0 A1 c1 L1 W hI1 a2 w2 A3 c3 L3 hI3 A4 c4 L4 hI4).mono fun e W' ⟨he, hg⟩ => ?_
  subst he
  exact ⟨_, rfl, lift_post (pv := []) hW' (fun _ _ _ => (trodAll_cons_mk (shut_bool Try.underlying4 _) trodAll_mk0)) (fun sp hsp => (trodAll_cons_mk (shut_int Try.underlying3 w0) (trodAll_cons_mk (WideElems.Trod_stays ReadsetWakes_laid (by kernel_rfl) (of_decide_eq_true (by kernel_rfl)) h1 (fun x hx => hg.same (hW'.lt x (by simp [hx]))) (fun x hx => hsp x (by simp [hx]))) (trodAll_cons_mk (shut_int Try.underlying3 w2) (trodAll_cons_mk (WideElems.Trod_stays ReadsetWakes_laid (by kernel_rfl) (of_decide_eq_true (by kernel_rfl)) h3 (fun x hx => hg.same (hW'.lt x (by simp [hx]))) (fun x hx => hsp x (by simp [hx]))) (trodAll_cons_mk (WideElems.Trod_stays ReadsetWakes_laid (by kernel_rfl) (of_decide_eq_true (by kernel_rfl)) h4 (fun x hx => hg.same (hW'.lt x (by simp [hx]))) (fun x hx => hsp x (by simp [hx]))) trodAll_mk0)))))) (fun _ _ => rfl) (by simp)
    hg (ok_one (by kernel_rfl) rfl (okWide_bool_mk Try.underlying4 _))⟩

/-- THE STATEMENT of ReadsetWakes: for every input the call returns true, and each argument reads behind it as before. -/
theorem ReadsetWakes_holds : Rows.ReadsetWakesSaid :=
  OpenClaim.holds_of_wide 7 Try.f7 rfl rfl rfl rfl rfl rfl rfl ⟨rfl, rfl, rfl, rfl, rfl⟩ rfl rfl rfl rfl rfl (by kernel_rfl) Try.func7 (by kernel_rfl)
    (of_decide_eq_true (by kernel_rfl)) (by unfold Func.isWrapper; first | (rw [if_pos (by decide +kernel)]; kernel_rfl) | (rw [if_neg (by decide +kernel)]; exact ⟨rfl, rfl⟩))
    (fun os started H enc _ => ReadsetWakes_lifted os started H enc)
end Go.Proofs.Ytdlikmekcgdmkaa
