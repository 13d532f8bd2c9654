/-
  THE DOCUMENT'S CODER: its Read, kind by kind. Laid by gen/gen_dpc.py. Conditions: a coder, a reader.
-/
import Derived.Test.YtkfcglgikemefaaDoorDpc
namespace Go.Proofs.YtkfcglgikemefaaDoor
set_option maxRecDepth 100000
open Go.RowKit Go.Deep
set_option linter.unusedVariables false
set_option linter.unusedSimpArgs false
set_option maxHeartbeats 4000000 in
theorem rread_4 (q : Cd) (hq : CdOk q) (gr gc : Nat) (S : ByteArray) (a : Nat) (wr : Int) (w : World) (hr : RRd w gr S a wr) (hc : RCod w gc q) (hne : gr ≠ gc) (hkd : (whoP q (nmR S) ev0 (a, wr)).1.kd = 4) :
    Calls Tryd.prog 21 #[.pointer (some ⟨gc, 0, none⟩), .pointer (some ⟨gr, 0, none⟩)] w (RdEnd gr gc S q (rdX q S a wr) w) := by
  have T0 := hq.T0; have T1 := hq.T1; have V0 := hq.V0; have V1 := hq.V1; have S0 := hq.S0; have S1 := hq.S1; have c0 := hq.c0; have c1 := hq.c1; have l0 := hq.l0
  obtain ⟨_, _, t0, t1⟩ := who_b q hq S (a, wr) ev0
  have hz : 0 ≤ (nmR S (a, wr) (u64 (whoN q ev0)) 0 (13 * q.T - 1)).1 ∧ (nmR S (a, wr) (u64 (whoN q ev0)) 0 (13 * q.T - 1)).1 ≤ 13 * q.T - 1 := nmR_val (by omega)
  have HT1 := Lib.hid (fun w1 h => rtold_any gr S (a, wr) (u64 (whoN q ev0)) (13 * q.T - 1) (by omega) w1 h)
  have hX : rdX q S a wr = partP q (nmR S) (whoP q (nmR S) ev0 (a, wr)).1 (whoP q (nmR S) ev0 (a, wr)).2 := rfl
  have hwe : (whoP q (nmR S) ev0 (a, wr)).1 = ⟨4, (whoP q (nmR S) ev0 (a, wr)).1.th, 0, 0, 0, 0, 0⟩ := by rw [← hkd]; rfl
  have hw2 : (whoP q (nmR S) ev0 (a, wr)).2 = (nmR S (a, wr) (u64 (whoN q ev0)) 0 (13 * q.T - 1)).2 := rfl
  have hk2 : (nmR S (a, wr) (u64 (whoN q ev0)) 0 (13 * q.T - 1)).1.tdiv q.T + 1 = 4 := hkd
  have ht2 : ((nmR S (a, wr) (u64 (whoN q ev0)) 0 (13 * q.T - 1)).1.tmod q.T + q.last).tmod q.T = (whoP q (nmR S) ev0 (a, wr)).1.th := who_same hz.1 l0 T0
  obtain ⟨z, hzz⟩ : ∃ z, z = (nmR S (a, wr) (u64 (whoN q ev0)) 0 (13 * q.T - 1)).1 := ⟨_, rfl⟩
  obtain ⟨y1, hy1⟩ : ∃ z, z = (nmR S (a, wr) (u64 (whoN q ev0)) 0 (13 * q.T - 1)).2 := ⟨_, rfl⟩
  obtain ⟨thI, hth⟩ : ∃ t, t = (whoP q (nmR S) ev0 (a, wr)).1.th := ⟨_, rfl⟩
  rw [hw2] at hX
  rw [hwe] at hX
  rw [← hth] at hX t0 t1 ht2
  rw [← hy1] at hX HT1
  rw [← hzz] at HT1 hz hk2 ht2
  obtain ⟨th, hth3⟩ : ∃ t : Nat, thI = (t : Int) := Int.eq_ofNat_of_zero_le t0
  subst hth3
  have hth6 : th < 6 := by omega
  clear hwe hw2 hkd hth hzz hy1
  have hz2 : 0 ≤ (nmR S y1 (u64 0) 0 (q.S - 1)).1 ∧ (nmR S y1 (u64 0) 0 (q.S - 1)).1 ≤ q.S - 1 := nmR_val (by omega)
  have HT2 := Lib.hid (fun w1 h => rtold_any gr S y1 (u64 0) (q.S - 1) (by omega) w1 h)
  have HX : Hid (rdX q S a wr = ((⟨4, (th : Int), 0, (nmR S y1 (u64 0) 0 (q.S - 1)).1, 0, 0, 0⟩ : Ev), (nmR S y1 (u64 0) 0 (q.S - 1)).2)) := hX
  obtain ⟨z2, hz2'⟩ : ∃ z, z = (nmR S y1 (u64 0) 0 (q.S - 1)).1 := ⟨_, rfl⟩
  obtain ⟨y2, hy2'⟩ : ∃ z, z = (nmR S y1 (u64 0) 0 (q.S - 1)).2 := ⟨_, rfl⟩
  rw [← hz2', ← hy2'] at HT2 HX
  rw [← hz2'] at hz2
  clear hX hz2' hy2'
  have hle : gr < w.heap.size := hr.1.lt
  obtain ⟨wA, hwA⟩ : ∃ W, w.alloc (.cells (evC ev0) 46) = W := ⟨_, rfl⟩
  have bA : Below w.heap.size w wA := by rw [← hwA]; exact (Below.refl _ _).alloc (Nat.le_refl _) _
  have HB : Hid (RdB w gr gc w.heap.size S q (a, wr) wA) := by
    refine ⟨⟨(bA.block gr hle).trans hr.1, hr.2⟩, hc.below bA, by rw [← hwA]; exact heap_alloc_new w _, ⟨bA.os, bA.tape, bA.output, bA.size, fun i hi _ _ => bA.block i hi⟩, hle, hc.lt, hne, Nat.le_refl _⟩
  have HWA : Hid (w.alloc (.cells #[.int .u8 0, .int .i64 0, .int .i64 0, .int .i64 0, .int .i64 0, .int .i64 0, .int .u8 0] 46) = wA) := hwA
  have x0 : (w.alloc (.cells #[.int .u8 0, .int .i64 0, .int .i64 0, .int .i64 0, .int .i64 0, .int .i64 0, .int .u8 0] 46)).cell? ⟨gc, 0, none⟩ = some (.int .i64 q.T) := by rw [HWA.out]; exact HB.out.cd.cT
  clear bA hwA hr hc hle
  go_enter Tryd.func21, Tryd.ntmps21
  go_wp2_with fail
  rw [HWA.out]
  refine (HT1.out wA HB.out.rd).mono ?_
  rintro _ wB ⟨rfl, h1, h2⟩
  have HB2 := Lib.hid (HB.out.told h1 h2)
  clear h1 h2 x0 HT1
  go_wp2_with fail
  refine rgRd2 rfl _ (by simp) wB w gr gc w.heap.size S q y1 z hq hz HB2.out rfl rfl ?_
  rintro w1 ⟨hb2, hs2, hev2⟩
  simp only [putAll, List.setIfInBounds_toArray, List.set_cons_succ, List.set_cons_zero]
  rw [hk2, ht2] at hev2
  obtain ⟨g7, hg7⟩ : ∃ g, g = wB.heap.size := ⟨_, rfl⟩
  rw [← hg7] at hev2 hs2 ⊢
  have HM : Hid (RdM w gr gc w.heap.size g7 S q ⟨4, (th : Int), 0, 0, 0, 0, 0⟩ y1 w1) := ⟨hb2, hev2, by have := HB2.out.rs.lt; omega⟩
  have x0 := HM.out.ev.c0
  simp only at x0
  have xS := HM.out.b.cd.cS
  have xV := HM.out.b.cd.cV
  have xC := HM.out.b.cd.cc
  have xP : w1.cell? ⟨gr, 1, none⟩ = some (.int .i64 (y1.1 : Int)) := by
    have h := HM.out.b.rd.1.cell 1
    simpa using h
  clear hb2 hs2 hev2 hg7 HB2 HB HWA hk2 ht2
  go_wp2_with fail
  clear x0 xS xV xC
  clear xP
  refine (HT2.out w1 HM.out.b.rd).mono ?_
  rintro _ w2 ⟨rfl, h1, h2⟩
  have HM := Lib.hid (HM.out.told h1 h2)
  clear h1 h2
  have x3 := HM.out.ev.c3
  have f3 := HM.out.ev.fr 3
  simp only at x3
  go_wp2_with fail
  clear x3 f3
  have HM : Hid (RdM w gr gc w.heap.size g7 S q ⟨4, (th : Int), 0, z2, 0, 0, 0⟩ y2 (w2.setCell ⟨g7, 3, none⟩ (.int .i64 z2))) := HM.out.set 3 _ rfl
  obtain ⟨w3, hw3⟩ : ∃ W, W = w2.setCell ⟨g7, 3, none⟩ (.int .i64 z2) := ⟨_, rfl⟩
  rw [← hw3] at HM ⊢
  clear hw3
  by_cases hw9 : (y2).2 = 0
  · have HWR := Lib.hid (rref_wrong_no gr S (y2).1 w3 (by have h := HM.out.b.rd; rw [hw9] at h; exact h))
    have HKN := Lib.hid (rknows_any q (⟨4, (th : Int), 0, z2, 0, 0, 0⟩) gc w3 HM.out.b.cd ⟨by simp, by simp; omega⟩ (by simp))
    go_wp2_with fail
    refine HWR.out.mono ?_
    rintro _ _ ⟨rfl, rfl⟩
    go_wp2_with (first
      | (refine wpList_load_row rfl _ _ rfl g7 rfl 46 (evC (⟨4, (th : Int), 0, z2, 0, 0, 0⟩)) (0, 0) _ HM.out.ev Tryd.underlying46 rfl (by kernel_rfl) ?_)
      | fail)
    refine HKN.out.mono ?_
    rintro _ w8 ⟨rfl, hk1, hk2⟩
    have E8 := Lib.hid (HM.out.ev.same (hk2.block g7 HM.out.ev.lt (by have := HM.out.n5; have := HM.out.b.n2; have := HM.out.b.n4; omega) (by simp)))
    have R8 := Lib.hid (HM.out.b.rs.same (hk2.block w.heap.size HM.out.b.rs.lt (by have := HM.out.b.n2; omega) (by simp)))
    obtain ⟨q1, q2⟩ := row_set (cs := evC (⟨4, (th : Int), 0, z2, 0, 0, 0⟩)) R8.out
    have Q1 := Lib.hid q1
    have HF := Lib.hid (rd_fin HM.out hk1 hk2 q2)
    clear q1 q2 hk1 hk2
    go_wp2_with (first
      | (refine wpList_load_row rfl _ _ rfl g7 rfl 46 (evC (⟨4, (th : Int), 0, z2, 0, 0, 0⟩)) (0, 0) _ E8.out Tryd.underlying46 rfl (by kernel_rfl) ?_)
      | (refine wpList_store_row rfl _ _ _ rfl w.heap.size (evC (⟨4, (th : Int), 0, z2, 0, 0, 0⟩)) rfl rfl 46 _ R8.out (by kernel_rfl) rfl (by simp [evC, Value.oneCell']) ?_)
      | fail)
    refine bodyPost_ret (results_ct rfl _ _ w.heap.size 46 _ (0, 0) _ rfl Q1.out Tryd.underlying46 rfl (by kernel_rfl)) rfl ?_
    rw [HX.out]
    unfold RdEnd
    simp only [hw9, if_true]
    refine ⟨rfl, ?_, HF.out.2.1, HF.out.2.2⟩
    have h := HF.out.1
    rw [hw9] at h
    exact h
  · have HWR := Lib.hid (rref_wrong_yes gr S (y2).1 (y2).2 hw9 w3 HM.out.b.rd)
    have q9 : ((y2).2 != 0) = true := bne_iff_ne.2 hw9
    go_wp2_with fail
    refine HWR.out.mono ?_
    rintro _ w8 ⟨rfl, n8, hn8⟩
    have b8 : Below w3.heap.size w3 w8 := by rw [hn8]; exact ⟨rfl, rfl, rfl, Nat.le_refl _, fun _ _ => rfl⟩
    have H8 := Lib.hid (HM.out.b.below b8)
    obtain ⟨q1, q2⟩ := row_set (cs := evC ev0) H8.out.rs
    have Q1 := Lib.hid q1
    have HF := Lib.hid (rd_fin0 H8.out q2)
    clear q1 q2 b8 hn8
    go_wp2_with (first
      | (refine wpList_store_row rfl _ _ _ rfl w.heap.size (evC ev0) rfl rfl 46 _ H8.out.rs (by kernel_rfl) rfl (by simp [evC, Value.oneCell']) ?_)
      | fail)
    refine bodyPost_ret (results_ct rfl _ _ w.heap.size 46 _ (0, 0) _ rfl Q1.out Tryd.underlying46 rfl (by kernel_rfl)) rfl ?_
    rw [HX.out]
    unfold RdEnd
    simp only [hw9, if_false]
    exact ⟨rfl, HF.out.1, HF.out.2.1, HF.out.2.2⟩
set_option maxHeartbeats 4000000 in
theorem rread_6 (q : Cd) (hq : CdOk q) (gr gc : Nat) (S : ByteArray) (a : Nat) (wr : Int) (w : World) (hr : RRd w gr S a wr) (hc : RCod w gc q) (hne : gr ≠ gc) (hkd : (whoP q (nmR S) ev0 (a, wr)).1.kd = 6) :
    Calls Tryd.prog 21 #[.pointer (some ⟨gc, 0, none⟩), .pointer (some ⟨gr, 0, none⟩)] w (RdEnd gr gc S q (rdX q S a wr) w) := by
  have T0 := hq.T0; have T1 := hq.T1; have V0 := hq.V0; have V1 := hq.V1; have S0 := hq.S0; have S1 := hq.S1; have c0 := hq.c0; have c1 := hq.c1; have l0 := hq.l0
  obtain ⟨_, _, t0, t1⟩ := who_b q hq S (a, wr) ev0
  have hz : 0 ≤ (nmR S (a, wr) (u64 (whoN q ev0)) 0 (13 * q.T - 1)).1 ∧ (nmR S (a, wr) (u64 (whoN q ev0)) 0 (13 * q.T - 1)).1 ≤ 13 * q.T - 1 := nmR_val (by omega)
  have HT1 := Lib.hid (fun w1 h => rtold_any gr S (a, wr) (u64 (whoN q ev0)) (13 * q.T - 1) (by omega) w1 h)
  have hX : rdX q S a wr = partP q (nmR S) (whoP q (nmR S) ev0 (a, wr)).1 (whoP q (nmR S) ev0 (a, wr)).2 := rfl
  have hwe : (whoP q (nmR S) ev0 (a, wr)).1 = ⟨6, (whoP q (nmR S) ev0 (a, wr)).1.th, 0, 0, 0, 0, 0⟩ := by rw [← hkd]; rfl
  have hw2 : (whoP q (nmR S) ev0 (a, wr)).2 = (nmR S (a, wr) (u64 (whoN q ev0)) 0 (13 * q.T - 1)).2 := rfl
  have hk2 : (nmR S (a, wr) (u64 (whoN q ev0)) 0 (13 * q.T - 1)).1.tdiv q.T + 1 = 6 := hkd
  have ht2 : ((nmR S (a, wr) (u64 (whoN q ev0)) 0 (13 * q.T - 1)).1.tmod q.T + q.last).tmod q.T = (whoP q (nmR S) ev0 (a, wr)).1.th := who_same hz.1 l0 T0
  obtain ⟨z, hzz⟩ : ∃ z, z = (nmR S (a, wr) (u64 (whoN q ev0)) 0 (13 * q.T - 1)).1 := ⟨_, rfl⟩
  obtain ⟨y1, hy1⟩ : ∃ z, z = (nmR S (a, wr) (u64 (whoN q ev0)) 0 (13 * q.T - 1)).2 := ⟨_, rfl⟩
  obtain ⟨thI, hth⟩ : ∃ t, t = (whoP q (nmR S) ev0 (a, wr)).1.th := ⟨_, rfl⟩
  rw [hw2] at hX
  rw [hwe] at hX
  rw [← hth] at hX t0 t1 ht2
  rw [← hy1] at hX HT1
  rw [← hzz] at HT1 hz hk2 ht2
  obtain ⟨th, hth3⟩ : ∃ t : Nat, thI = (t : Int) := Int.eq_ofNat_of_zero_le t0
  subst hth3
  have hth6 : th < 6 := by omega
  clear hwe hw2 hkd hth hzz hy1
  have hz2 : 0 ≤ (nmR S y1 (u64 0) 0 (q.S - 1)).1 ∧ (nmR S y1 (u64 0) 0 (q.S - 1)).1 ≤ q.S - 1 := nmR_val (by omega)
  have HT2 := Lib.hid (fun w1 h => rtold_any gr S y1 (u64 0) (q.S - 1) (by omega) w1 h)
  have HX : Hid (rdX q S a wr = ((⟨6, (th : Int), 0, (nmR S y1 (u64 0) 0 (q.S - 1)).1, 0, 0, 0⟩ : Ev), (nmR S y1 (u64 0) 0 (q.S - 1)).2)) := hX
  obtain ⟨z2, hz2'⟩ : ∃ z, z = (nmR S y1 (u64 0) 0 (q.S - 1)).1 := ⟨_, rfl⟩
  obtain ⟨y2, hy2'⟩ : ∃ z, z = (nmR S y1 (u64 0) 0 (q.S - 1)).2 := ⟨_, rfl⟩
  rw [← hz2', ← hy2'] at HT2 HX
  rw [← hz2'] at hz2
  clear hX hz2' hy2'
  have hle : gr < w.heap.size := hr.1.lt
  obtain ⟨wA, hwA⟩ : ∃ W, w.alloc (.cells (evC ev0) 46) = W := ⟨_, rfl⟩
  have bA : Below w.heap.size w wA := by rw [← hwA]; exact (Below.refl _ _).alloc (Nat.le_refl _) _
  have HB : Hid (RdB w gr gc w.heap.size S q (a, wr) wA) := by
    refine ⟨⟨(bA.block gr hle).trans hr.1, hr.2⟩, hc.below bA, by rw [← hwA]; exact heap_alloc_new w _, ⟨bA.os, bA.tape, bA.output, bA.size, fun i hi _ _ => bA.block i hi⟩, hle, hc.lt, hne, Nat.le_refl _⟩
  have HWA : Hid (w.alloc (.cells #[.int .u8 0, .int .i64 0, .int .i64 0, .int .i64 0, .int .i64 0, .int .i64 0, .int .u8 0] 46) = wA) := hwA
  have x0 : (w.alloc (.cells #[.int .u8 0, .int .i64 0, .int .i64 0, .int .i64 0, .int .i64 0, .int .i64 0, .int .u8 0] 46)).cell? ⟨gc, 0, none⟩ = some (.int .i64 q.T) := by rw [HWA.out]; exact HB.out.cd.cT
  clear bA hwA hr hc hle
  go_enter Tryd.func21, Tryd.ntmps21
  go_wp2_with fail
  rw [HWA.out]
  refine (HT1.out wA HB.out.rd).mono ?_
  rintro _ wB ⟨rfl, h1, h2⟩
  have HB2 := Lib.hid (HB.out.told h1 h2)
  clear h1 h2 x0 HT1
  go_wp2_with fail
  refine rgRd2 rfl _ (by simp) wB w gr gc w.heap.size S q y1 z hq hz HB2.out rfl rfl ?_
  rintro w1 ⟨hb2, hs2, hev2⟩
  simp only [putAll, List.setIfInBounds_toArray, List.set_cons_succ, List.set_cons_zero]
  rw [hk2, ht2] at hev2
  obtain ⟨g7, hg7⟩ : ∃ g, g = wB.heap.size := ⟨_, rfl⟩
  rw [← hg7] at hev2 hs2 ⊢
  have HM : Hid (RdM w gr gc w.heap.size g7 S q ⟨6, (th : Int), 0, 0, 0, 0, 0⟩ y1 w1) := ⟨hb2, hev2, by have := HB2.out.rs.lt; omega⟩
  have x0 := HM.out.ev.c0
  simp only at x0
  have xS := HM.out.b.cd.cS
  have xV := HM.out.b.cd.cV
  have xC := HM.out.b.cd.cc
  have xP : w1.cell? ⟨gr, 1, none⟩ = some (.int .i64 (y1.1 : Int)) := by
    have h := HM.out.b.rd.1.cell 1
    simpa using h
  clear hb2 hs2 hev2 hg7 HB2 HB HWA hk2 ht2
  go_wp2_with fail
  clear x0 xS xV xC
  clear xP
  refine (HT2.out w1 HM.out.b.rd).mono ?_
  rintro _ w2 ⟨rfl, h1, h2⟩
  have HM := Lib.hid (HM.out.told h1 h2)
  clear h1 h2
  have x3 := HM.out.ev.c3
  have f3 := HM.out.ev.fr 3
  simp only at x3
  go_wp2_with fail
  clear x3 f3
  have HM : Hid (RdM w gr gc w.heap.size g7 S q ⟨6, (th : Int), 0, z2, 0, 0, 0⟩ y2 (w2.setCell ⟨g7, 3, none⟩ (.int .i64 z2))) := HM.out.set 3 _ rfl
  obtain ⟨w3, hw3⟩ : ∃ W, W = w2.setCell ⟨g7, 3, none⟩ (.int .i64 z2) := ⟨_, rfl⟩
  rw [← hw3] at HM ⊢
  clear hw3
  by_cases hw9 : (y2).2 = 0
  · have HWR := Lib.hid (rref_wrong_no gr S (y2).1 w3 (by have h := HM.out.b.rd; rw [hw9] at h; exact h))
    have HKN := Lib.hid (rknows_any q (⟨6, (th : Int), 0, z2, 0, 0, 0⟩) gc w3 HM.out.b.cd ⟨by simp, by simp; omega⟩ (by simp))
    go_wp2_with fail
    refine HWR.out.mono ?_
    rintro _ _ ⟨rfl, rfl⟩
    go_wp2_with (first
      | (refine wpList_load_row rfl _ _ rfl g7 rfl 46 (evC (⟨6, (th : Int), 0, z2, 0, 0, 0⟩)) (0, 0) _ HM.out.ev Tryd.underlying46 rfl (by kernel_rfl) ?_)
      | fail)
    refine HKN.out.mono ?_
    rintro _ w8 ⟨rfl, hk1, hk2⟩
    have E8 := Lib.hid (HM.out.ev.same (hk2.block g7 HM.out.ev.lt (by have := HM.out.n5; have := HM.out.b.n2; have := HM.out.b.n4; omega) (by simp)))
    have R8 := Lib.hid (HM.out.b.rs.same (hk2.block w.heap.size HM.out.b.rs.lt (by have := HM.out.b.n2; omega) (by simp)))
    obtain ⟨q1, q2⟩ := row_set (cs := evC (⟨6, (th : Int), 0, z2, 0, 0, 0⟩)) R8.out
    have Q1 := Lib.hid q1
    have HF := Lib.hid (rd_fin HM.out hk1 hk2 q2)
    clear q1 q2 hk1 hk2
    go_wp2_with (first
      | (refine wpList_load_row rfl _ _ rfl g7 rfl 46 (evC (⟨6, (th : Int), 0, z2, 0, 0, 0⟩)) (0, 0) _ E8.out Tryd.underlying46 rfl (by kernel_rfl) ?_)
      | (refine wpList_store_row rfl _ _ _ rfl w.heap.size (evC (⟨6, (th : Int), 0, z2, 0, 0, 0⟩)) rfl rfl 46 _ R8.out (by kernel_rfl) rfl (by simp [evC, Value.oneCell']) ?_)
      | fail)
    refine bodyPost_ret (results_ct rfl _ _ w.heap.size 46 _ (0, 0) _ rfl Q1.out Tryd.underlying46 rfl (by kernel_rfl)) rfl ?_
    rw [HX.out]
    unfold RdEnd
    simp only [hw9, if_true]
    refine ⟨rfl, ?_, HF.out.2.1, HF.out.2.2⟩
    have h := HF.out.1
    rw [hw9] at h
    exact h
  · have HWR := Lib.hid (rref_wrong_yes gr S (y2).1 (y2).2 hw9 w3 HM.out.b.rd)
    have q9 : ((y2).2 != 0) = true := bne_iff_ne.2 hw9
    go_wp2_with fail
    refine HWR.out.mono ?_
    rintro _ w8 ⟨rfl, n8, hn8⟩
    have b8 : Below w3.heap.size w3 w8 := by rw [hn8]; exact ⟨rfl, rfl, rfl, Nat.le_refl _, fun _ _ => rfl⟩
    have H8 := Lib.hid (HM.out.b.below b8)
    obtain ⟨q1, q2⟩ := row_set (cs := evC ev0) H8.out.rs
    have Q1 := Lib.hid q1
    have HF := Lib.hid (rd_fin0 H8.out q2)
    clear q1 q2 b8 hn8
    go_wp2_with (first
      | (refine wpList_store_row rfl _ _ _ rfl w.heap.size (evC ev0) rfl rfl 46 _ H8.out.rs (by kernel_rfl) rfl (by simp [evC, Value.oneCell']) ?_)
      | fail)
    refine bodyPost_ret (results_ct rfl _ _ w.heap.size 46 _ (0, 0) _ rfl Q1.out Tryd.underlying46 rfl (by kernel_rfl)) rfl ?_
    rw [HX.out]
    unfold RdEnd
    simp only [hw9, if_false]
    exact ⟨rfl, HF.out.1, HF.out.2.1, HF.out.2.2⟩
set_option maxHeartbeats 4000000 in
theorem rread_9 (q : Cd) (hq : CdOk q) (gr gc : Nat) (S : ByteArray) (a : Nat) (wr : Int) (w : World) (hr : RRd w gr S a wr) (hc : RCod w gc q) (hne : gr ≠ gc) (hkd : (whoP q (nmR S) ev0 (a, wr)).1.kd = 9) :
    Calls Tryd.prog 21 #[.pointer (some ⟨gc, 0, none⟩), .pointer (some ⟨gr, 0, none⟩)] w (RdEnd gr gc S q (rdX q S a wr) w) := by
  have T0 := hq.T0; have T1 := hq.T1; have V0 := hq.V0; have V1 := hq.V1; have S0 := hq.S0; have S1 := hq.S1; have c0 := hq.c0; have c1 := hq.c1; have l0 := hq.l0
  obtain ⟨_, _, t0, t1⟩ := who_b q hq S (a, wr) ev0
  have hz : 0 ≤ (nmR S (a, wr) (u64 (whoN q ev0)) 0 (13 * q.T - 1)).1 ∧ (nmR S (a, wr) (u64 (whoN q ev0)) 0 (13 * q.T - 1)).1 ≤ 13 * q.T - 1 := nmR_val (by omega)
  have HT1 := Lib.hid (fun w1 h => rtold_any gr S (a, wr) (u64 (whoN q ev0)) (13 * q.T - 1) (by omega) w1 h)
  have hX : rdX q S a wr = partP q (nmR S) (whoP q (nmR S) ev0 (a, wr)).1 (whoP q (nmR S) ev0 (a, wr)).2 := rfl
  have hwe : (whoP q (nmR S) ev0 (a, wr)).1 = ⟨9, (whoP q (nmR S) ev0 (a, wr)).1.th, 0, 0, 0, 0, 0⟩ := by rw [← hkd]; rfl
  have hw2 : (whoP q (nmR S) ev0 (a, wr)).2 = (nmR S (a, wr) (u64 (whoN q ev0)) 0 (13 * q.T - 1)).2 := rfl
  have hk2 : (nmR S (a, wr) (u64 (whoN q ev0)) 0 (13 * q.T - 1)).1.tdiv q.T + 1 = 9 := hkd
  have ht2 : ((nmR S (a, wr) (u64 (whoN q ev0)) 0 (13 * q.T - 1)).1.tmod q.T + q.last).tmod q.T = (whoP q (nmR S) ev0 (a, wr)).1.th := who_same hz.1 l0 T0
  obtain ⟨z, hzz⟩ : ∃ z, z = (nmR S (a, wr) (u64 (whoN q ev0)) 0 (13 * q.T - 1)).1 := ⟨_, rfl⟩
  obtain ⟨y1, hy1⟩ : ∃ z, z = (nmR S (a, wr) (u64 (whoN q ev0)) 0 (13 * q.T - 1)).2 := ⟨_, rfl⟩
  obtain ⟨thI, hth⟩ : ∃ t, t = (whoP q (nmR S) ev0 (a, wr)).1.th := ⟨_, rfl⟩
  rw [hw2] at hX
  rw [hwe] at hX
  rw [← hth] at hX t0 t1 ht2
  rw [← hy1] at hX HT1
  rw [← hzz] at HT1 hz hk2 ht2
  obtain ⟨th, hth3⟩ : ∃ t : Nat, thI = (t : Int) := Int.eq_ofNat_of_zero_le t0
  subst hth3
  have hth6 : th < 6 := by omega
  clear hwe hw2 hkd hth hzz hy1
  have hz2 : 0 ≤ (nmR S y1 (u64 0) 0 (q.S - 1)).1 ∧ (nmR S y1 (u64 0) 0 (q.S - 1)).1 ≤ q.S - 1 := nmR_val (by omega)
  have HT2 := Lib.hid (fun w1 h => rtold_any gr S y1 (u64 0) (q.S - 1) (by omega) w1 h)
  have HX : Hid (rdX q S a wr = ((⟨9, (th : Int), 0, (nmR S y1 (u64 0) 0 (q.S - 1)).1, 0, 0, 0⟩ : Ev), (nmR S y1 (u64 0) 0 (q.S - 1)).2)) := hX
  obtain ⟨z2, hz2'⟩ : ∃ z, z = (nmR S y1 (u64 0) 0 (q.S - 1)).1 := ⟨_, rfl⟩
  obtain ⟨y2, hy2'⟩ : ∃ z, z = (nmR S y1 (u64 0) 0 (q.S - 1)).2 := ⟨_, rfl⟩
  rw [← hz2', ← hy2'] at HT2 HX
  rw [← hz2'] at hz2
  clear hX hz2' hy2'
  have hle : gr < w.heap.size := hr.1.lt
  obtain ⟨wA, hwA⟩ : ∃ W, w.alloc (.cells (evC ev0) 46) = W := ⟨_, rfl⟩
  have bA : Below w.heap.size w wA := by rw [← hwA]; exact (Below.refl _ _).alloc (Nat.le_refl _) _
  have HB : Hid (RdB w gr gc w.heap.size S q (a, wr) wA) := by
    refine ⟨⟨(bA.block gr hle).trans hr.1, hr.2⟩, hc.below bA, by rw [← hwA]; exact heap_alloc_new w _, ⟨bA.os, bA.tape, bA.output, bA.size, fun i hi _ _ => bA.block i hi⟩, hle, hc.lt, hne, Nat.le_refl _⟩
  have HWA : Hid (w.alloc (.cells #[.int .u8 0, .int .i64 0, .int .i64 0, .int .i64 0, .int .i64 0, .int .i64 0, .int .u8 0] 46) = wA) := hwA
  have x0 : (w.alloc (.cells #[.int .u8 0, .int .i64 0, .int .i64 0, .int .i64 0, .int .i64 0, .int .i64 0, .int .u8 0] 46)).cell? ⟨gc, 0, none⟩ = some (.int .i64 q.T) := by rw [HWA.out]; exact HB.out.cd.cT
  clear bA hwA hr hc hle
  go_enter Tryd.func21, Tryd.ntmps21
  go_wp2_with fail
  rw [HWA.out]
  refine (HT1.out wA HB.out.rd).mono ?_
  rintro _ wB ⟨rfl, h1, h2⟩
  have HB2 := Lib.hid (HB.out.told h1 h2)
  clear h1 h2 x0 HT1
  go_wp2_with fail
  refine rgRd2 rfl _ (by simp) wB w gr gc w.heap.size S q y1 z hq hz HB2.out rfl rfl ?_
  rintro w1 ⟨hb2, hs2, hev2⟩
  simp only [putAll, List.setIfInBounds_toArray, List.set_cons_succ, List.set_cons_zero]
  rw [hk2, ht2] at hev2
  obtain ⟨g7, hg7⟩ : ∃ g, g = wB.heap.size := ⟨_, rfl⟩
  rw [← hg7] at hev2 hs2 ⊢
  have HM : Hid (RdM w gr gc w.heap.size g7 S q ⟨9, (th : Int), 0, 0, 0, 0, 0⟩ y1 w1) := ⟨hb2, hev2, by have := HB2.out.rs.lt; omega⟩
  have x0 := HM.out.ev.c0
  simp only at x0
  have xS := HM.out.b.cd.cS
  have xV := HM.out.b.cd.cV
  have xC := HM.out.b.cd.cc
  have xP : w1.cell? ⟨gr, 1, none⟩ = some (.int .i64 (y1.1 : Int)) := by
    have h := HM.out.b.rd.1.cell 1
    simpa using h
  clear hb2 hs2 hev2 hg7 HB2 HB HWA hk2 ht2
  go_wp2_with fail
  clear x0 xS xV xC
  clear xP
  refine (HT2.out w1 HM.out.b.rd).mono ?_
  rintro _ w2 ⟨rfl, h1, h2⟩
  have HM := Lib.hid (HM.out.told h1 h2)
  clear h1 h2
  have x3 := HM.out.ev.c3
  have f3 := HM.out.ev.fr 3
  simp only at x3
  go_wp2_with fail
  clear x3 f3
  have HM : Hid (RdM w gr gc w.heap.size g7 S q ⟨9, (th : Int), 0, z2, 0, 0, 0⟩ y2 (w2.setCell ⟨g7, 3, none⟩ (.int .i64 z2))) := HM.out.set 3 _ rfl
  obtain ⟨w3, hw3⟩ : ∃ W, W = w2.setCell ⟨g7, 3, none⟩ (.int .i64 z2) := ⟨_, rfl⟩
  rw [← hw3] at HM ⊢
  clear hw3
  by_cases hw9 : (y2).2 = 0
  · have HWR := Lib.hid (rref_wrong_no gr S (y2).1 w3 (by have h := HM.out.b.rd; rw [hw9] at h; exact h))
    have HKN := Lib.hid (rknows_any q (⟨9, (th : Int), 0, z2, 0, 0, 0⟩) gc w3 HM.out.b.cd ⟨by simp, by simp; omega⟩ (by simp))
    go_wp2_with fail
    refine HWR.out.mono ?_
    rintro _ _ ⟨rfl, rfl⟩
    go_wp2_with (first
      | (refine wpList_load_row rfl _ _ rfl g7 rfl 46 (evC (⟨9, (th : Int), 0, z2, 0, 0, 0⟩)) (0, 0) _ HM.out.ev Tryd.underlying46 rfl (by kernel_rfl) ?_)
      | fail)
    refine HKN.out.mono ?_
    rintro _ w8 ⟨rfl, hk1, hk2⟩
    have E8 := Lib.hid (HM.out.ev.same (hk2.block g7 HM.out.ev.lt (by have := HM.out.n5; have := HM.out.b.n2; have := HM.out.b.n4; omega) (by simp)))
    have R8 := Lib.hid (HM.out.b.rs.same (hk2.block w.heap.size HM.out.b.rs.lt (by have := HM.out.b.n2; omega) (by simp)))
    obtain ⟨q1, q2⟩ := row_set (cs := evC (⟨9, (th : Int), 0, z2, 0, 0, 0⟩)) R8.out
    have Q1 := Lib.hid q1
    have HF := Lib.hid (rd_fin HM.out hk1 hk2 q2)
    clear q1 q2 hk1 hk2
    go_wp2_with (first
      | (refine wpList_load_row rfl _ _ rfl g7 rfl 46 (evC (⟨9, (th : Int), 0, z2, 0, 0, 0⟩)) (0, 0) _ E8.out Tryd.underlying46 rfl (by kernel_rfl) ?_)
      | (refine wpList_store_row rfl _ _ _ rfl w.heap.size (evC (⟨9, (th : Int), 0, z2, 0, 0, 0⟩)) rfl rfl 46 _ R8.out (by kernel_rfl) rfl (by simp [evC, Value.oneCell']) ?_)
      | fail)
    refine bodyPost_ret (results_ct rfl _ _ w.heap.size 46 _ (0, 0) _ rfl Q1.out Tryd.underlying46 rfl (by kernel_rfl)) rfl ?_
    rw [HX.out]
    unfold RdEnd
    simp only [hw9, if_true]
    refine ⟨rfl, ?_, HF.out.2.1, HF.out.2.2⟩
    have h := HF.out.1
    rw [hw9] at h
    exact h
  · have HWR := Lib.hid (rref_wrong_yes gr S (y2).1 (y2).2 hw9 w3 HM.out.b.rd)
    have q9 : ((y2).2 != 0) = true := bne_iff_ne.2 hw9
    go_wp2_with fail
    refine HWR.out.mono ?_
    rintro _ w8 ⟨rfl, n8, hn8⟩
    have b8 : Below w3.heap.size w3 w8 := by rw [hn8]; exact ⟨rfl, rfl, rfl, Nat.le_refl _, fun _ _ => rfl⟩
    have H8 := Lib.hid (HM.out.b.below b8)
    obtain ⟨q1, q2⟩ := row_set (cs := evC ev0) H8.out.rs
    have Q1 := Lib.hid q1
    have HF := Lib.hid (rd_fin0 H8.out q2)
    clear q1 q2 b8 hn8
    go_wp2_with (first
      | (refine wpList_store_row rfl _ _ _ rfl w.heap.size (evC ev0) rfl rfl 46 _ H8.out.rs (by kernel_rfl) rfl (by simp [evC, Value.oneCell']) ?_)
      | fail)
    refine bodyPost_ret (results_ct rfl _ _ w.heap.size 46 _ (0, 0) _ rfl Q1.out Tryd.underlying46 rfl (by kernel_rfl)) rfl ?_
    rw [HX.out]
    unfold RdEnd
    simp only [hw9, if_false]
    exact ⟨rfl, HF.out.1, HF.out.2.1, HF.out.2.2⟩
set_option maxHeartbeats 4000000 in
theorem rread_11 (q : Cd) (hq : CdOk q) (gr gc : Nat) (S : ByteArray) (a : Nat) (wr : Int) (w : World) (hr : RRd w gr S a wr) (hc : RCod w gc q) (hne : gr ≠ gc) (hkd : (whoP q (nmR S) ev0 (a, wr)).1.kd = 11) :
    Calls Tryd.prog 21 #[.pointer (some ⟨gc, 0, none⟩), .pointer (some ⟨gr, 0, none⟩)] w (RdEnd gr gc S q (rdX q S a wr) w) := by
  have T0 := hq.T0; have T1 := hq.T1; have V0 := hq.V0; have V1 := hq.V1; have S0 := hq.S0; have S1 := hq.S1; have c0 := hq.c0; have c1 := hq.c1; have l0 := hq.l0
  obtain ⟨_, _, t0, t1⟩ := who_b q hq S (a, wr) ev0
  have hz : 0 ≤ (nmR S (a, wr) (u64 (whoN q ev0)) 0 (13 * q.T - 1)).1 ∧ (nmR S (a, wr) (u64 (whoN q ev0)) 0 (13 * q.T - 1)).1 ≤ 13 * q.T - 1 := nmR_val (by omega)
  have HT1 := Lib.hid (fun w1 h => rtold_any gr S (a, wr) (u64 (whoN q ev0)) (13 * q.T - 1) (by omega) w1 h)
  have hX : rdX q S a wr = partP q (nmR S) (whoP q (nmR S) ev0 (a, wr)).1 (whoP q (nmR S) ev0 (a, wr)).2 := rfl
  have hwe : (whoP q (nmR S) ev0 (a, wr)).1 = ⟨11, (whoP q (nmR S) ev0 (a, wr)).1.th, 0, 0, 0, 0, 0⟩ := by rw [← hkd]; rfl
  have hw2 : (whoP q (nmR S) ev0 (a, wr)).2 = (nmR S (a, wr) (u64 (whoN q ev0)) 0 (13 * q.T - 1)).2 := rfl
  have hk2 : (nmR S (a, wr) (u64 (whoN q ev0)) 0 (13 * q.T - 1)).1.tdiv q.T + 1 = 11 := hkd
  have ht2 : ((nmR S (a, wr) (u64 (whoN q ev0)) 0 (13 * q.T - 1)).1.tmod q.T + q.last).tmod q.T = (whoP q (nmR S) ev0 (a, wr)).1.th := who_same hz.1 l0 T0
  obtain ⟨z, hzz⟩ : ∃ z, z = (nmR S (a, wr) (u64 (whoN q ev0)) 0 (13 * q.T - 1)).1 := ⟨_, rfl⟩
  obtain ⟨y1, hy1⟩ : ∃ z, z = (nmR S (a, wr) (u64 (whoN q ev0)) 0 (13 * q.T - 1)).2 := ⟨_, rfl⟩
  obtain ⟨thI, hth⟩ : ∃ t, t = (whoP q (nmR S) ev0 (a, wr)).1.th := ⟨_, rfl⟩
  rw [hw2] at hX
  rw [hwe] at hX
  rw [← hth] at hX t0 t1 ht2
  rw [← hy1] at hX HT1
  rw [← hzz] at HT1 hz hk2 ht2
  obtain ⟨th, hth3⟩ : ∃ t : Nat, thI = (t : Int) := Int.eq_ofNat_of_zero_le t0
  subst hth3
  have hth6 : th < 6 := by omega
  clear hwe hw2 hkd hth hzz hy1
  have hz2 : 0 ≤ (nmR S y1 (u64 0) 0 (q.S - 1)).1 ∧ (nmR S y1 (u64 0) 0 (q.S - 1)).1 ≤ q.S - 1 := nmR_val (by omega)
  have HT2 := Lib.hid (fun w1 h => rtold_any gr S y1 (u64 0) (q.S - 1) (by omega) w1 h)
  have HX : Hid (rdX q S a wr = ((⟨11, (th : Int), 0, (nmR S y1 (u64 0) 0 (q.S - 1)).1, 0, 0, 0⟩ : Ev), (nmR S y1 (u64 0) 0 (q.S - 1)).2)) := hX
  obtain ⟨z2, hz2'⟩ : ∃ z, z = (nmR S y1 (u64 0) 0 (q.S - 1)).1 := ⟨_, rfl⟩
  obtain ⟨y2, hy2'⟩ : ∃ z, z = (nmR S y1 (u64 0) 0 (q.S - 1)).2 := ⟨_, rfl⟩
  rw [← hz2', ← hy2'] at HT2 HX
  rw [← hz2'] at hz2
  clear hX hz2' hy2'
  have hle : gr < w.heap.size := hr.1.lt
  obtain ⟨wA, hwA⟩ : ∃ W, w.alloc (.cells (evC ev0) 46) = W := ⟨_, rfl⟩
  have bA : Below w.heap.size w wA := by rw [← hwA]; exact (Below.refl _ _).alloc (Nat.le_refl _) _
  have HB : Hid (RdB w gr gc w.heap.size S q (a, wr) wA) := by
    refine ⟨⟨(bA.block gr hle).trans hr.1, hr.2⟩, hc.below bA, by rw [← hwA]; exact heap_alloc_new w _, ⟨bA.os, bA.tape, bA.output, bA.size, fun i hi _ _ => bA.block i hi⟩, hle, hc.lt, hne, Nat.le_refl _⟩
  have HWA : Hid (w.alloc (.cells #[.int .u8 0, .int .i64 0, .int .i64 0, .int .i64 0, .int .i64 0, .int .i64 0, .int .u8 0] 46) = wA) := hwA
  have x0 : (w.alloc (.cells #[.int .u8 0, .int .i64 0, .int .i64 0, .int .i64 0, .int .i64 0, .int .i64 0, .int .u8 0] 46)).cell? ⟨gc, 0, none⟩ = some (.int .i64 q.T) := by rw [HWA.out]; exact HB.out.cd.cT
  clear bA hwA hr hc hle
  go_enter Tryd.func21, Tryd.ntmps21
  go_wp2_with fail
  rw [HWA.out]
  refine (HT1.out wA HB.out.rd).mono ?_
  rintro _ wB ⟨rfl, h1, h2⟩
  have HB2 := Lib.hid (HB.out.told h1 h2)
  clear h1 h2 x0 HT1
  go_wp2_with fail
  refine rgRd2 rfl _ (by simp) wB w gr gc w.heap.size S q y1 z hq hz HB2.out rfl rfl ?_
  rintro w1 ⟨hb2, hs2, hev2⟩
  simp only [putAll, List.setIfInBounds_toArray, List.set_cons_succ, List.set_cons_zero]
  rw [hk2, ht2] at hev2
  obtain ⟨g7, hg7⟩ : ∃ g, g = wB.heap.size := ⟨_, rfl⟩
  rw [← hg7] at hev2 hs2 ⊢
  have HM : Hid (RdM w gr gc w.heap.size g7 S q ⟨11, (th : Int), 0, 0, 0, 0, 0⟩ y1 w1) := ⟨hb2, hev2, by have := HB2.out.rs.lt; omega⟩
  have x0 := HM.out.ev.c0
  simp only at x0
  have xS := HM.out.b.cd.cS
  have xV := HM.out.b.cd.cV
  have xC := HM.out.b.cd.cc
  have xP : w1.cell? ⟨gr, 1, none⟩ = some (.int .i64 (y1.1 : Int)) := by
    have h := HM.out.b.rd.1.cell 1
    simpa using h
  clear hb2 hs2 hev2 hg7 HB2 HB HWA hk2 ht2
  go_wp2_with fail
  clear x0 xS xV xC
  clear xP
  refine (HT2.out w1 HM.out.b.rd).mono ?_
  rintro _ w2 ⟨rfl, h1, h2⟩
  have HM := Lib.hid (HM.out.told h1 h2)
  clear h1 h2
  have x3 := HM.out.ev.c3
  have f3 := HM.out.ev.fr 3
  simp only at x3
  go_wp2_with fail
  clear x3 f3
  have HM : Hid (RdM w gr gc w.heap.size g7 S q ⟨11, (th : Int), 0, z2, 0, 0, 0⟩ y2 (w2.setCell ⟨g7, 3, none⟩ (.int .i64 z2))) := HM.out.set 3 _ rfl
  obtain ⟨w3, hw3⟩ : ∃ W, W = w2.setCell ⟨g7, 3, none⟩ (.int .i64 z2) := ⟨_, rfl⟩
  rw [← hw3] at HM ⊢
  clear hw3
  by_cases hw9 : (y2).2 = 0
  · have HWR := Lib.hid (rref_wrong_no gr S (y2).1 w3 (by have h := HM.out.b.rd; rw [hw9] at h; exact h))
    have HKN := Lib.hid (rknows_any q (⟨11, (th : Int), 0, z2, 0, 0, 0⟩) gc w3 HM.out.b.cd ⟨by simp, by simp; omega⟩ (by simp))
    go_wp2_with fail
    refine HWR.out.mono ?_
    rintro _ _ ⟨rfl, rfl⟩
    go_wp2_with (first
      | (refine wpList_load_row rfl _ _ rfl g7 rfl 46 (evC (⟨11, (th : Int), 0, z2, 0, 0, 0⟩)) (0, 0) _ HM.out.ev Tryd.underlying46 rfl (by kernel_rfl) ?_)
      | fail)
    refine HKN.out.mono ?_
    rintro _ w8 ⟨rfl, hk1, hk2⟩
    have E8 := Lib.hid (HM.out.ev.same (hk2.block g7 HM.out.ev.lt (by have := HM.out.n5; have := HM.out.b.n2; have := HM.out.b.n4; omega) (by simp)))
    have R8 := Lib.hid (HM.out.b.rs.same (hk2.block w.heap.size HM.out.b.rs.lt (by have := HM.out.b.n2; omega) (by simp)))
    obtain ⟨q1, q2⟩ := row_set (cs := evC (⟨11, (th : Int), 0, z2, 0, 0, 0⟩)) R8.out
    have Q1 := Lib.hid q1
    have HF := Lib.hid (rd_fin HM.out hk1 hk2 q2)
    clear q1 q2 hk1 hk2
    go_wp2_with (first
      | (refine wpList_load_row rfl _ _ rfl g7 rfl 46 (evC (⟨11, (th : Int), 0, z2, 0, 0, 0⟩)) (0, 0) _ E8.out Tryd.underlying46 rfl (by kernel_rfl) ?_)
      | (refine wpList_store_row rfl _ _ _ rfl w.heap.size (evC (⟨11, (th : Int), 0, z2, 0, 0, 0⟩)) rfl rfl 46 _ R8.out (by kernel_rfl) rfl (by simp [evC, Value.oneCell']) ?_)
      | fail)
    refine bodyPost_ret (results_ct rfl _ _ w.heap.size 46 _ (0, 0) _ rfl Q1.out Tryd.underlying46 rfl (by kernel_rfl)) rfl ?_
    rw [HX.out]
    unfold RdEnd
    simp only [hw9, if_true]
    refine ⟨rfl, ?_, HF.out.2.1, HF.out.2.2⟩
    have h := HF.out.1
    rw [hw9] at h
    exact h
  · have HWR := Lib.hid (rref_wrong_yes gr S (y2).1 (y2).2 hw9 w3 HM.out.b.rd)
    have q9 : ((y2).2 != 0) = true := bne_iff_ne.2 hw9
    go_wp2_with fail
    refine HWR.out.mono ?_
    rintro _ w8 ⟨rfl, n8, hn8⟩
    have b8 : Below w3.heap.size w3 w8 := by rw [hn8]; exact ⟨rfl, rfl, rfl, Nat.le_refl _, fun _ _ => rfl⟩
    have H8 := Lib.hid (HM.out.b.below b8)
    obtain ⟨q1, q2⟩ := row_set (cs := evC ev0) H8.out.rs
    have Q1 := Lib.hid q1
    have HF := Lib.hid (rd_fin0 H8.out q2)
    clear q1 q2 b8 hn8
    go_wp2_with (first
      | (refine wpList_store_row rfl _ _ _ rfl w.heap.size (evC ev0) rfl rfl 46 _ H8.out.rs (by kernel_rfl) rfl (by simp [evC, Value.oneCell']) ?_)
      | fail)
    refine bodyPost_ret (results_ct rfl _ _ w.heap.size 46 _ (0, 0) _ rfl Q1.out Tryd.underlying46 rfl (by kernel_rfl)) rfl ?_
    rw [HX.out]
    unfold RdEnd
    simp only [hw9, if_false]
    exact ⟨rfl, HF.out.1, HF.out.2.1, HF.out.2.2⟩
set_option maxHeartbeats 4000000 in
theorem rread_7 (q : Cd) (hq : CdOk q) (gr gc : Nat) (S : ByteArray) (a : Nat) (wr : Int) (w : World) (hr : RRd w gr S a wr) (hc : RCod w gc q) (hne : gr ≠ gc) (hkd : (whoP q (nmR S) ev0 (a, wr)).1.kd = 7) :
    Calls Tryd.prog 21 #[.pointer (some ⟨gc, 0, none⟩), .pointer (some ⟨gr, 0, none⟩)] w (RdEnd gr gc S q (rdX q S a wr) w) := by
  have T0 := hq.T0; have T1 := hq.T1; have V0 := hq.V0; have V1 := hq.V1; have S0 := hq.S0; have S1 := hq.S1; have c0 := hq.c0; have c1 := hq.c1; have l0 := hq.l0
  obtain ⟨_, _, t0, t1⟩ := who_b q hq S (a, wr) ev0
  have hz : 0 ≤ (nmR S (a, wr) (u64 (whoN q ev0)) 0 (13 * q.T - 1)).1 ∧ (nmR S (a, wr) (u64 (whoN q ev0)) 0 (13 * q.T - 1)).1 ≤ 13 * q.T - 1 := nmR_val (by omega)
  have HT1 := Lib.hid (fun w1 h => rtold_any gr S (a, wr) (u64 (whoN q ev0)) (13 * q.T - 1) (by omega) w1 h)
  have hX : rdX q S a wr = partP q (nmR S) (whoP q (nmR S) ev0 (a, wr)).1 (whoP q (nmR S) ev0 (a, wr)).2 := rfl
  have hwe : (whoP q (nmR S) ev0 (a, wr)).1 = ⟨7, (whoP q (nmR S) ev0 (a, wr)).1.th, 0, 0, 0, 0, 0⟩ := by rw [← hkd]; rfl
  have hw2 : (whoP q (nmR S) ev0 (a, wr)).2 = (nmR S (a, wr) (u64 (whoN q ev0)) 0 (13 * q.T - 1)).2 := rfl
  have hk2 : (nmR S (a, wr) (u64 (whoN q ev0)) 0 (13 * q.T - 1)).1.tdiv q.T + 1 = 7 := hkd
  have ht2 : ((nmR S (a, wr) (u64 (whoN q ev0)) 0 (13 * q.T - 1)).1.tmod q.T + q.last).tmod q.T = (whoP q (nmR S) ev0 (a, wr)).1.th := who_same hz.1 l0 T0
  obtain ⟨z, hzz⟩ : ∃ z, z = (nmR S (a, wr) (u64 (whoN q ev0)) 0 (13 * q.T - 1)).1 := ⟨_, rfl⟩
  obtain ⟨y1, hy1⟩ : ∃ z, z = (nmR S (a, wr) (u64 (whoN q ev0)) 0 (13 * q.T - 1)).2 := ⟨_, rfl⟩
  obtain ⟨thI, hth⟩ : ∃ t, t = (whoP q (nmR S) ev0 (a, wr)).1.th := ⟨_, rfl⟩
  rw [hw2] at hX
  rw [hwe] at hX
  rw [← hth] at hX t0 t1 ht2
  rw [← hy1] at hX HT1
  rw [← hzz] at HT1 hz hk2 ht2
  obtain ⟨th, hth3⟩ : ∃ t : Nat, thI = (t : Int) := Int.eq_ofNat_of_zero_le t0
  subst hth3
  have hth6 : th < 6 := by omega
  clear hwe hw2 hkd hth hzz hy1
  have hbp := hq.bp th
  have HT2 := Lib.hid (fun w1 h => rtold_any gr S y1 0 1 (by omega) w1 h)
  have hz2 : 0 ≤ (nmR S y1 0 0 1).1 ∧ (nmR S y1 0 0 1).1 ≤ 1 := nmR_val (by omega)
  have hX7 : rdX q S a wr = ((⟨7, (th : Int), 0, 0, q.bp th * (nmR S y1 (u64 (min 0 1)) 0 (min (q.bp th) 1)).1, 0, 0⟩ : Ev), (nmR S y1 (u64 (min 0 1)) 0 (min (q.bp th) 1)).2) := hX
  obtain ⟨d0, d1⟩ := nm_commit S y1 (u64 (min 0 1)) hbp.1
  have hl0 := (nm_low S y1 0 (m := 1) (by omega)).1
  have HXa : Hid (q.bp th = 0 → rdX q S a wr = ((⟨7, (th : Int), 0, 0, 0, 0, 0⟩ : Ev), if (nmR S y1 0 0 1).1 = 1 then (if (nmR S y1 0 0 1).2.2 = 0 then (y1.1, 20) else (nmR S y1 0 0 1).2) else (nmR S y1 0 0 1).2)) := fun h => by
    rw [hX7, d0 h]
    simp
  have HXb : Hid (¬ q.bp th = 0 → rdX q S a wr = ((⟨7, (th : Int), 0, 0, q.bp th * (nmR S y1 0 0 1).1, 0, 0⟩ : Ev), (nmR S y1 0 0 1).2)) := fun h => by
    rw [hX7, d1 h]
  obtain ⟨z2, hz2'⟩ : ∃ z, z = (nmR S y1 0 0 1).1 := ⟨_, rfl⟩
  obtain ⟨y2, hy2'⟩ : ∃ z, z = (nmR S y1 0 0 1).2 := ⟨_, rfl⟩
  rw [← hz2', ← hy2'] at HT2 HXa HXb
  rw [← hz2'] at hz2
  rw [← hy2'] at hl0
  clear hX hz2' hy2' hX7 d0 d1
  have hle : gr < w.heap.size := hr.1.lt
  obtain ⟨wA, hwA⟩ : ∃ W, w.alloc (.cells (evC ev0) 46) = W := ⟨_, rfl⟩
  have bA : Below w.heap.size w wA := by rw [← hwA]; exact (Below.refl _ _).alloc (Nat.le_refl _) _
  have HB : Hid (RdB w gr gc w.heap.size S q (a, wr) wA) := by
    refine ⟨⟨(bA.block gr hle).trans hr.1, hr.2⟩, hc.below bA, by rw [← hwA]; exact heap_alloc_new w _, ⟨bA.os, bA.tape, bA.output, bA.size, fun i hi _ _ => bA.block i hi⟩, hle, hc.lt, hne, Nat.le_refl _⟩
  have HWA : Hid (w.alloc (.cells #[.int .u8 0, .int .i64 0, .int .i64 0, .int .i64 0, .int .i64 0, .int .i64 0, .int .u8 0] 46) = wA) := hwA
  have x0 : (w.alloc (.cells #[.int .u8 0, .int .i64 0, .int .i64 0, .int .i64 0, .int .i64 0, .int .i64 0, .int .u8 0] 46)).cell? ⟨gc, 0, none⟩ = some (.int .i64 q.T) := by rw [HWA.out]; exact HB.out.cd.cT
  clear bA hwA hr hc hle
  go_enter Tryd.func21, Tryd.ntmps21
  go_wp2_with fail
  rw [HWA.out]
  refine (HT1.out wA HB.out.rd).mono ?_
  rintro _ wB ⟨rfl, h1, h2⟩
  have HB2 := Lib.hid (HB.out.told h1 h2)
  clear h1 h2 x0 HT1
  go_wp2_with fail
  refine rgRd2 rfl _ (by simp) wB w gr gc w.heap.size S q y1 z hq hz HB2.out rfl rfl ?_
  rintro w1 ⟨hb2, hs2, hev2⟩
  simp only [putAll, List.setIfInBounds_toArray, List.set_cons_succ, List.set_cons_zero]
  rw [hk2, ht2] at hev2
  obtain ⟨g7, hg7⟩ : ∃ g, g = wB.heap.size := ⟨_, rfl⟩
  rw [← hg7] at hev2 hs2 ⊢
  have HM : Hid (RdM w gr gc w.heap.size g7 S q ⟨7, (th : Int), 0, 0, 0, 0, 0⟩ y1 w1) := ⟨hb2, hev2, by have := HB2.out.rs.lt; omega⟩
  have x0 := HM.out.ev.c0
  simp only at x0
  have xS := HM.out.b.cd.cS
  have xV := HM.out.b.cd.cV
  have xC := HM.out.b.cd.cc
  have xP : w1.cell? ⟨gr, 1, none⟩ = some (.int .i64 (y1.1 : Int)) := by
    have h := HM.out.b.rd.1.cell 1
    simpa using h
  clear hb2 hs2 hev2 hg7 HB2 HB HWA hk2 ht2
  go_wp2_with fail
  clear x0 xS xV xC
  refine (HT2.out w1 HM.out.b.rd).mono ?_
  rintro _ w2 ⟨rfl, h1, h2⟩
  have HM := Lib.hid (HM.out.told h1 h2)
  clear h1 h2 xP
  by_cases hq6 : z2 = 1
  rotate_left
  · have q6 : (z2 == 1) = false := beq_eq_false_iff_ne.2 hq6
    have hq0 : z2 = 0 := by omega
    have HX : Hid (rdX q S a wr = ((⟨7, (th : Int), 0, 0, 0, 0, 0⟩ : Ev), y2)) := Lib.hid (by
      by_cases hb0 : q.bp th = 0
      · rw [HXa.out hb0, if_neg hq6]
      · rw [HXb.out hb0, hq0, Int.mul_zero])
    go_wp2_with fail
    by_cases hw9 : (y2).2 = 0
    · have HWR := Lib.hid (rref_wrong_no gr S (y2).1 w2 (by have h := HM.out.b.rd; rw [hw9] at h; exact h))
      have HKN := Lib.hid (rknows_any q (⟨7, (th : Int), 0, 0, 0, 0, 0⟩) gc w2 HM.out.b.cd ⟨by simp, by simp; omega⟩ (by simp))
      go_wp2_with fail
      refine HWR.out.mono ?_
      rintro _ _ ⟨rfl, rfl⟩
      go_wp2_with (first
        | (refine wpList_load_row rfl _ _ rfl g7 rfl 46 (evC (⟨7, (th : Int), 0, 0, 0, 0, 0⟩)) (0, 0) _ HM.out.ev Tryd.underlying46 rfl (by kernel_rfl) ?_)
        | fail)
      refine HKN.out.mono ?_
      rintro _ w8 ⟨rfl, hk1, hk2⟩
      have E8 := Lib.hid (HM.out.ev.same (hk2.block g7 HM.out.ev.lt (by have := HM.out.n5; have := HM.out.b.n2; have := HM.out.b.n4; omega) (by simp)))
      have R8 := Lib.hid (HM.out.b.rs.same (hk2.block w.heap.size HM.out.b.rs.lt (by have := HM.out.b.n2; omega) (by simp)))
      obtain ⟨q1, q2⟩ := row_set (cs := evC (⟨7, (th : Int), 0, 0, 0, 0, 0⟩)) R8.out
      have Q1 := Lib.hid q1
      have HF := Lib.hid (rd_fin HM.out hk1 hk2 q2)
      clear q1 q2 hk1 hk2
      go_wp2_with (first
        | (refine wpList_load_row rfl _ _ rfl g7 rfl 46 (evC (⟨7, (th : Int), 0, 0, 0, 0, 0⟩)) (0, 0) _ E8.out Tryd.underlying46 rfl (by kernel_rfl) ?_)
        | (refine wpList_store_row rfl _ _ _ rfl w.heap.size (evC (⟨7, (th : Int), 0, 0, 0, 0, 0⟩)) rfl rfl 46 _ R8.out (by kernel_rfl) rfl (by simp [evC, Value.oneCell']) ?_)
        | fail)
      refine bodyPost_ret (results_ct rfl _ _ w.heap.size 46 _ (0, 0) _ rfl Q1.out Tryd.underlying46 rfl (by kernel_rfl)) rfl ?_
      rw [HX.out]
      unfold RdEnd
      simp only [hw9, if_true]
      refine ⟨rfl, ?_, HF.out.2.1, HF.out.2.2⟩
      have h := HF.out.1
      rw [hw9] at h
      exact h
    · have HWR := Lib.hid (rref_wrong_yes gr S (y2).1 (y2).2 hw9 w2 HM.out.b.rd)
      have q9 : ((y2).2 != 0) = true := bne_iff_ne.2 hw9
      go_wp2_with fail
      refine HWR.out.mono ?_
      rintro _ w8 ⟨rfl, n8, hn8⟩
      have b8 : Below w2.heap.size w2 w8 := by rw [hn8]; exact ⟨rfl, rfl, rfl, Nat.le_refl _, fun _ _ => rfl⟩
      have H8 := Lib.hid (HM.out.b.below b8)
      obtain ⟨q1, q2⟩ := row_set (cs := evC ev0) H8.out.rs
      have Q1 := Lib.hid q1
      have HF := Lib.hid (rd_fin0 H8.out q2)
      clear q1 q2 b8 hn8
      go_wp2_with (first
        | (refine wpList_store_row rfl _ _ _ rfl w.heap.size (evC ev0) rfl rfl 46 _ H8.out.rs (by kernel_rfl) rfl (by simp [evC, Value.oneCell']) ?_)
        | fail)
      refine bodyPost_ret (results_ct rfl _ _ w.heap.size 46 _ (0, 0) _ rfl Q1.out Tryd.underlying46 rfl (by kernel_rfl)) rfl ?_
      rw [HX.out]
      unfold RdEnd
      simp only [hw9, if_false]
      exact ⟨rfl, HF.out.1, HF.out.2.1, HF.out.2.2⟩
  have q6 : (z2 == 1) = true := by simp [hq6]
  go_wp2_with fail
  refine rgRd29 rfl _ (by simp) _ w gr gc w.heap.size g7 S q ⟨7, (th : Int), 0, 0, 0, 0, 0⟩ ⟨7, (th : Int), 0, 0, q.bp th, 0, 0⟩ y2 y2 z2 hq HM.out th hth6 rfl rfl rfl rfl rfl ?_
  intro w3 hM3
  simp only [putAll, List.setIfInBounds_toArray, List.set_cons_succ, List.set_cons_zero]
  have HM := Lib.hid hM3
  clear hM3
  have x4 := HM.out.ev.c4
  simp only at x4
  by_cases hb0 : q.bp th = 0
  · have q7 : (q.bp th == 0) = true := by simp [hb0]
    have HFL := Lib.hid (rref_fail (y1.1 : Int) 20 gr S y2.1 y2.2 w3 HM.out.b.rd)
    obtain ⟨yy, hyy⟩ : ∃ y, y = (if y2.2 = 0 then (y1.1, (20 : Int)) else y2) := ⟨_, rfl⟩
    rw [fail_low hl0, ← hyy] at HFL
    unfold RSet at HFL
    have HX : Hid (rdX q S a wr = ((⟨7, (th : Int), 0, 0, 0, 0, 0⟩ : Ev), yy)) := Lib.hid (by rw [HXa.out hb0, if_pos hq6, hyy])
    rw [hb0] at HM x4
    clear hyy hl0
    go_wp2_with fail
    refine HFL.out.mono ?_
    rintro _ w4 ⟨rfl, h1, h2⟩
    have HM := Lib.hid (HM.out.told (y := yy) h1 h2)
    clear h1 h2 x4
    go_wp2_with fail
    by_cases hw9 : (yy).2 = 0
    · have HWR := Lib.hid (rref_wrong_no gr S (yy).1 w4 (by have h := HM.out.b.rd; rw [hw9] at h; exact h))
      have HKN := Lib.hid (rknows_any q (⟨7, (th : Int), 0, 0, 0, 0, 0⟩) gc w4 HM.out.b.cd ⟨by simp, by simp; omega⟩ (by simp))
      go_wp2_with fail
      refine HWR.out.mono ?_
      rintro _ _ ⟨rfl, rfl⟩
      go_wp2_with (first
        | (refine wpList_load_row rfl _ _ rfl g7 rfl 46 (evC (⟨7, (th : Int), 0, 0, 0, 0, 0⟩)) (0, 0) _ HM.out.ev Tryd.underlying46 rfl (by kernel_rfl) ?_)
        | fail)
      refine HKN.out.mono ?_
      rintro _ w8 ⟨rfl, hk1, hk2⟩
      have E8 := Lib.hid (HM.out.ev.same (hk2.block g7 HM.out.ev.lt (by have := HM.out.n5; have := HM.out.b.n2; have := HM.out.b.n4; omega) (by simp)))
      have R8 := Lib.hid (HM.out.b.rs.same (hk2.block w.heap.size HM.out.b.rs.lt (by have := HM.out.b.n2; omega) (by simp)))
      obtain ⟨q1, q2⟩ := row_set (cs := evC (⟨7, (th : Int), 0, 0, 0, 0, 0⟩)) R8.out
      have Q1 := Lib.hid q1
      have HF := Lib.hid (rd_fin HM.out hk1 hk2 q2)
      clear q1 q2 hk1 hk2
      go_wp2_with (first
        | (refine wpList_load_row rfl _ _ rfl g7 rfl 46 (evC (⟨7, (th : Int), 0, 0, 0, 0, 0⟩)) (0, 0) _ E8.out Tryd.underlying46 rfl (by kernel_rfl) ?_)
        | (refine wpList_store_row rfl _ _ _ rfl w.heap.size (evC (⟨7, (th : Int), 0, 0, 0, 0, 0⟩)) rfl rfl 46 _ R8.out (by kernel_rfl) rfl (by simp [evC, Value.oneCell']) ?_)
        | fail)
      refine bodyPost_ret (results_ct rfl _ _ w.heap.size 46 _ (0, 0) _ rfl Q1.out Tryd.underlying46 rfl (by kernel_rfl)) rfl ?_
      rw [HX.out]
      unfold RdEnd
      simp only [hw9, if_true]
      refine ⟨rfl, ?_, HF.out.2.1, HF.out.2.2⟩
      have h := HF.out.1
      rw [hw9] at h
      exact h
    · have HWR := Lib.hid (rref_wrong_yes gr S (yy).1 (yy).2 hw9 w4 HM.out.b.rd)
      have q9 : ((yy).2 != 0) = true := bne_iff_ne.2 hw9
      go_wp2_with fail
      refine HWR.out.mono ?_
      rintro _ w8 ⟨rfl, n8, hn8⟩
      have b8 : Below w4.heap.size w4 w8 := by rw [hn8]; exact ⟨rfl, rfl, rfl, Nat.le_refl _, fun _ _ => rfl⟩
      have H8 := Lib.hid (HM.out.b.below b8)
      obtain ⟨q1, q2⟩ := row_set (cs := evC ev0) H8.out.rs
      have Q1 := Lib.hid q1
      have HF := Lib.hid (rd_fin0 H8.out q2)
      clear q1 q2 b8 hn8
      go_wp2_with (first
        | (refine wpList_store_row rfl _ _ _ rfl w.heap.size (evC ev0) rfl rfl 46 _ H8.out.rs (by kernel_rfl) rfl (by simp [evC, Value.oneCell']) ?_)
        | fail)
      refine bodyPost_ret (results_ct rfl _ _ w.heap.size 46 _ (0, 0) _ rfl Q1.out Tryd.underlying46 rfl (by kernel_rfl)) rfl ?_
      rw [HX.out]
      unfold RdEnd
      simp only [hw9, if_false]
      exact ⟨rfl, HF.out.1, HF.out.2.1, HF.out.2.2⟩
  · have q7 : (q.bp th == 0) = false := beq_eq_false_iff_ne.2 hb0
    have HX : Hid (rdX q S a wr = ((⟨7, (th : Int), 0, 0, q.bp th, 0, 0⟩ : Ev), y2)) := Lib.hid (by rw [HXb.out hb0, hq6, Int.mul_one])
    go_wp2_with fail
    clear x4
    by_cases hw9 : (y2).2 = 0
    · have HWR := Lib.hid (rref_wrong_no gr S (y2).1 w3 (by have h := HM.out.b.rd; rw [hw9] at h; exact h))
      have HKN := Lib.hid (rknows_any q (⟨7, (th : Int), 0, 0, q.bp th, 0, 0⟩) gc w3 HM.out.b.cd ⟨by simp, by simp; omega⟩ (by simp))
      go_wp2_with fail
      refine HWR.out.mono ?_
      rintro _ _ ⟨rfl, rfl⟩
      go_wp2_with (first
        | (refine wpList_load_row rfl _ _ rfl g7 rfl 46 (evC (⟨7, (th : Int), 0, 0, q.bp th, 0, 0⟩)) (0, 0) _ HM.out.ev Tryd.underlying46 rfl (by kernel_rfl) ?_)
        | fail)
      refine HKN.out.mono ?_
      rintro _ w8 ⟨rfl, hk1, hk2⟩
      have E8 := Lib.hid (HM.out.ev.same (hk2.block g7 HM.out.ev.lt (by have := HM.out.n5; have := HM.out.b.n2; have := HM.out.b.n4; omega) (by simp)))
      have R8 := Lib.hid (HM.out.b.rs.same (hk2.block w.heap.size HM.out.b.rs.lt (by have := HM.out.b.n2; omega) (by simp)))
      obtain ⟨q1, q2⟩ := row_set (cs := evC (⟨7, (th : Int), 0, 0, q.bp th, 0, 0⟩)) R8.out
      have Q1 := Lib.hid q1
      have HF := Lib.hid (rd_fin HM.out hk1 hk2 q2)
      clear q1 q2 hk1 hk2
      go_wp2_with (first
        | (refine wpList_load_row rfl _ _ rfl g7 rfl 46 (evC (⟨7, (th : Int), 0, 0, q.bp th, 0, 0⟩)) (0, 0) _ E8.out Tryd.underlying46 rfl (by kernel_rfl) ?_)
        | (refine wpList_store_row rfl _ _ _ rfl w.heap.size (evC (⟨7, (th : Int), 0, 0, q.bp th, 0, 0⟩)) rfl rfl 46 _ R8.out (by kernel_rfl) rfl (by simp [evC, Value.oneCell']) ?_)
        | fail)
      refine bodyPost_ret (results_ct rfl _ _ w.heap.size 46 _ (0, 0) _ rfl Q1.out Tryd.underlying46 rfl (by kernel_rfl)) rfl ?_
      rw [HX.out]
      unfold RdEnd
      simp only [hw9, if_true]
      refine ⟨rfl, ?_, HF.out.2.1, HF.out.2.2⟩
      have h := HF.out.1
      rw [hw9] at h
      exact h
    · have HWR := Lib.hid (rref_wrong_yes gr S (y2).1 (y2).2 hw9 w3 HM.out.b.rd)
      have q9 : ((y2).2 != 0) = true := bne_iff_ne.2 hw9
      go_wp2_with fail
      refine HWR.out.mono ?_
      rintro _ w8 ⟨rfl, n8, hn8⟩
      have b8 : Below w3.heap.size w3 w8 := by rw [hn8]; exact ⟨rfl, rfl, rfl, Nat.le_refl _, fun _ _ => rfl⟩
      have H8 := Lib.hid (HM.out.b.below b8)
      obtain ⟨q1, q2⟩ := row_set (cs := evC ev0) H8.out.rs
      have Q1 := Lib.hid q1
      have HF := Lib.hid (rd_fin0 H8.out q2)
      clear q1 q2 b8 hn8
      go_wp2_with (first
        | (refine wpList_store_row rfl _ _ _ rfl w.heap.size (evC ev0) rfl rfl 46 _ H8.out.rs (by kernel_rfl) rfl (by simp [evC, Value.oneCell']) ?_)
        | fail)
      refine bodyPost_ret (results_ct rfl _ _ w.heap.size 46 _ (0, 0) _ rfl Q1.out Tryd.underlying46 rfl (by kernel_rfl)) rfl ?_
      rw [HX.out]
      unfold RdEnd
      simp only [hw9, if_false]
      exact ⟨rfl, HF.out.1, HF.out.2.1, HF.out.2.2⟩
end Go.Proofs.YtkfcglgikemefaaDoor
