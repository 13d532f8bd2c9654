/-
  THE DOCUMENT'S CODER: CONTRACT OF Read. Laid by gen/gen_dpc.py. Conditions: a coder, a reader.
-/
import Derived.Test.YtkfcglgikemefaaDoorDpm
namespace Go.Proofs.YtkfcglgikemefaaDoor
set_option maxRecDepth 100000
open Go.RowKit Go.Deep
set_option linter.unusedVariables false
set_option linter.unusedSimpArgs false
theorem results_ct {P : Program} {fn : Func} {p q2 : Tmp} {ty : TypeId} (h : fn.results = #[.cell p ty, .tmp q2]) (tmps : Array Value) (w : World) (g : Nat) (t : TypeId) (cs : Array Value) (fr : Nat × Nat) (d : TypeDesc)
    (hp : tmps.getD p undef = .pointer (some ⟨g, 0, none⟩)) (hg : w.heap[g]? = some (.cells cs t fr))
    (hu : P.underlying ty = some d) (hd : (match d with | .struct _ | .array _ _ => true | _ => false) = true) (hi : (P.info? ty).map (·.size) = some cs.size) :
    (results fn tmps).run P w = .ok (.tuple #[.agg cs, tmps.getD q2 undef]) w := by
  have hp' : tmps[p]?.getD undef = .pointer (some ⟨g, 0, none⟩) := by simpa using hp
  simp [results, h, hp', asAddr, run_loadVar_row w g t ty cs fr d hg hu hd hi]
theorem who_same {z l T : Int} (hz : 0 ≤ z) (hl : 0 ≤ l) (hT : 1 ≤ T) : (z.tmod T + l).tmod T = (l + z).tmod T := by
  have h1 : 0 ≤ z.tmod T := (modT hz hT).1
  rw [Int.tmod_eq_emod_of_nonneg (by omega), Int.tmod_eq_emod_of_nonneg hz, Int.tmod_eq_emod_of_nonneg (by omega), Int.emod_add_emod, Int.add_comm]
theorem rint_nm (S : ByteArray) (x : Nat × Int) (n : Int) : rInt S x.1 x.2 = (zagV (nmR S x n 0 18446744073709551615).1, (rNum 18446744073709551615 S x.1 x.2).2.1, (nmR S x n 0 18446744073709551615).2.1, (nmR S x n 0 18446744073709551615).2.2) := by
  rw [nmR_0 n (by decide)]
  have hb := get_small (S.data.toList.drop x.1)
  have h0 : zagV 0 = 0 := by decide
  unfold rInt rNum rd tInt tNum
  by_cases hw : x.2 = 0
  · by_cases hg : (Vm.get (S.data.toList.drop x.1)).2.2 = 0
    · have hle : ¬ (18446744073709551615 : Int) < ((Vm.get (S.data.toList.drop x.1)).1 : Int) := by omega
      simp [hw, hg, hle]
    · have hg2 : ((Vm.get (S.data.toList.drop x.1)).2.2 : Int) ≠ 0 := by omega
      simp [hw, hg, hg2, h0]
  · simp [hw, h0]
theorem nm_low (S : ByteArray) (x : Nat × Int) (n : Int) {m : Int} (hm : 0 ≤ m) : x.1 ≤ (nmR S x n 0 m).2.1 ∧ ((nmR S x n 0 m).1 = 0 → nmR S x n 1 m = ((nmR S x n 0 m).1, (if (nmR S x n 0 m).2.2 = 0 then (x.1, 20) else (nmR S x n 0 m).2))) ∧ (¬ (nmR S x n 0 m).1 = 0 → nmR S x n 1 m = nmR S x n 0 m) := by
  have hv := rNum_val hm S x.1 x.2
  have he : (rNum m S x.1 x.2).2.1 = (rNum m S x.1 x.2).2.2.2 := by unfold rNum rd; split <;> (try split) <;> rfl
  have hp : x.1 ≤ (rNum m S x.1 x.2).2.2.1 := by unfold rNum rd; split <;> (try split) <;> simp
  rw [nmR_0 n hm]
  refine ⟨hp, fun h0 => ?_, fun h0 => ?_⟩
  · simp only at h0 ⊢
    unfold nmR
    by_cases h1 : (rNum m S x.1 x.2).2.2.2 = 0
    · rw [if_pos ⟨he.trans h1, by omega⟩, if_pos h1]
    · rw [if_neg (fun h => h1 (he ▸ h.1)), if_neg h1]
  · simp only at h0 ⊢
    unfold nmR
    rw [if_neg (by omega)]
/-- A commit's number, as the document reads it: 0 or 1; 1 is refused where nothing was bumped. -/
theorem nm_commit (S : ByteArray) (x : Nat × Int) (n : Int) {b : Int} (hb : 0 ≤ b) : (b = 0 → nmR S x n 0 (min b 1) = (0, if (nmR S x 0 0 1).1 = 1 then (if (nmR S x 0 0 1).2.2 = 0 then (x.1, 20) else (nmR S x 0 0 1).2) else (nmR S x 0 0 1).2)) ∧ (¬ b = 0 → nmR S x n 0 (min b 1) = nmR S x 0 0 1) := by
  refine ⟨fun h => ?_, fun h => ?_⟩
  · subst h
    rw [show min (0 : Int) 1 = 0 from rfl, nmR_0 n (Int.le_refl _), nmR_0 0 (by decide)]
    unfold rNum rd tNum
    by_cases hw : x.2 = 0
    · by_cases he : (Vm.get (S.data.toList.drop x.1)).2.2 = 0
      · by_cases h0 : (Vm.get (S.data.toList.drop x.1)).1 = 0
        · simp [hw, he, h0]
        · by_cases h1 : (Vm.get (S.data.toList.drop x.1)).1 = 1
          · simp [hw, he, h1]
          · have g0 : (0 : Int) < ((Vm.get (S.data.toList.drop x.1)).1 : Int) := by omega
            have g1 : (1 : Int) < ((Vm.get (S.data.toList.drop x.1)).1 : Int) := by omega
            simp only [hw, he, if_true, if_pos g0, if_pos g1]
            simp
      · have he2 : ((Vm.get (S.data.toList.drop x.1)).2.2 : Int) ≠ 0 := by omega
        simp [hw, he]
    · simp [hw]
  · rw [show min b 1 = 1 by omega, nmR_0 n (by decide), nmR_0 0 (by decide)]
theorem fail_low {p : Nat} {x : Nat × Int} (h : p ≤ x.1) : rFail (p : Int) 20 x.1 x.2 = ((if x.2 = 0 then (p, (20 : Int)) else x).2, (if x.2 = 0 then (p, (20 : Int)) else x).1, (if x.2 = 0 then (p, (20 : Int)) else x).2) := by
  unfold rFail
  by_cases hx : x.2 = 0
  · rw [if_pos hx, if_neg (by omega), if_pos hx]
    simp
  · rw [if_neg hx, if_neg hx]
def RdEnd (gr gc : Nat) (S : ByteArray) (q : Cd) (X : Ev × (Nat × Int)) (w : World) (r : Ending) (w' : World) : Prop :=
  r = .returned (.tuple #[evV (if X.2.2 = 0 then X.1 else ev0), .int .i64 X.2.2]) ∧ RRd w' gr S X.2.1 X.2.2 ∧ RCod w' gc (if X.2.2 = 0 then knowQ q X.1 else q) ∧ Kp gr (some gc) w w'

theorem rd_fin {w W w8 w9 : World} {gr gc g7 : Nat} {S : ByteArray} {q : Cd} {e : Ev} {x : Nat × Int} (h : RdM w gr gc w.heap.size g7 S q e x W) (h1 : RCod w8 gc (knowQ q e)) (h2 : Kp gc none W w8) (h3 : Kp w.heap.size none w8 w9) :
    RRd w9 gr S x.1 x.2 ∧ RCod w9 gc (knowQ q e) ∧ Kp gr (some gc) w w9 := by
  have n1 := h.b.n1; have n2 := h.b.n2; have n3 := h.b.n3; have k1 := h.b.kp.size; have k2 := h2.size; have k3 := h3.size
  refine ⟨⟨((h3.block gr (by omega) (by omega) (by simp)).trans (h2.block gr (by omega) n3 (by simp))).trans h.b.rd.1, h.b.rd.2⟩, h1.same (h3.block gc (by omega) (by omega) (by simp)), ?_⟩
  exact ⟨h3.os.trans (h2.os.trans h.b.kp.os), h3.tape.trans (h2.tape.trans h.b.kp.tape), h3.output.trans (h2.output.trans h.b.kp.output), by omega, fun i hi a b => ((h3.block i (by omega) (by omega) (by simp)).trans (h2.block i (by omega) (fun hh => b (by rw [hh])) (by simp))).trans (h.b.kp.block i hi a (by simp))⟩
theorem rd_fin0 {w w8 w9 : World} {gr gc : Nat} {S : ByteArray} {q : Cd} {x : Nat × Int} (h : RdB w gr gc w.heap.size S q x w8) (h3 : Kp w.heap.size none w8 w9) :
    RRd w9 gr S x.1 x.2 ∧ RCod w9 gc q ∧ Kp gr (some gc) w w9 := by
  have n1 := h.n1; have n2 := h.n2; have n3 := h.n3; have k1 := h.kp.size; have k3 := h3.size
  refine ⟨⟨(h3.block gr (by omega) (by omega) (by simp)).trans h.rd.1, h.rd.2⟩, h.cd.same (h3.block gc (by omega) (by omega) (by simp)), ?_⟩
  exact ⟨h3.os.trans h.kp.os, h3.tape.trans h.kp.tape, h3.output.trans h.kp.output, by omega, fun i hi a b => (h3.block i (by omega) (by omega) (by simp)).trans (h.kp.block i hi a (by simp))⟩
set_option maxHeartbeats 4000000 in
theorem rread_1 (q : Cd) (hq : CdOk q) (gr gc : Nat) (S : ByteArray) (a : Nat) (wr : Int) (w : World) (hr : RRd w gr S a wr) (hc : RCod w gc q) (hne : gr ≠ gc) (hkd : (whoP q (nmR S) ev0 (a, wr)).1.kd = 1) :
    Calls Tryd.prog 21 #[.pointer (some ⟨gc, 0, none⟩), .pointer (some ⟨gr, 0, none⟩)] w (RdEnd gr gc S q (rdX q S a wr) w) := by
  have T0 := hq.T0; have T1 := hq.T1; have V0 := hq.V0; have V1 := hq.V1; have S0 := hq.S0; have S1 := hq.S1; have c0 := hq.c0; have c1 := hq.c1; have l0 := hq.l0
  obtain ⟨_, _, t0, t1⟩ := who_b q hq S (a, wr) ev0
  have hz : 0 ≤ (nmR S (a, wr) (u64 (whoN q ev0)) 0 (13 * q.T - 1)).1 ∧ (nmR S (a, wr) (u64 (whoN q ev0)) 0 (13 * q.T - 1)).1 ≤ 13 * q.T - 1 := nmR_val (by omega)
  have HT1 := Lib.hid (fun w1 h => rtold_any gr S (a, wr) (u64 (whoN q ev0)) (13 * q.T - 1) (by omega) w1 h)
  have hX : rdX q S a wr = partP q (nmR S) (whoP q (nmR S) ev0 (a, wr)).1 (whoP q (nmR S) ev0 (a, wr)).2 := rfl
  have hwe : (whoP q (nmR S) ev0 (a, wr)).1 = ⟨1, (whoP q (nmR S) ev0 (a, wr)).1.th, 0, 0, 0, 0, 0⟩ := by rw [← hkd]; rfl
  have hw2 : (whoP q (nmR S) ev0 (a, wr)).2 = (nmR S (a, wr) (u64 (whoN q ev0)) 0 (13 * q.T - 1)).2 := rfl
  have hk2 : (nmR S (a, wr) (u64 (whoN q ev0)) 0 (13 * q.T - 1)).1.tdiv q.T + 1 = 1 := hkd
  have ht2 : ((nmR S (a, wr) (u64 (whoN q ev0)) 0 (13 * q.T - 1)).1.tmod q.T + q.last).tmod q.T = (whoP q (nmR S) ev0 (a, wr)).1.th := who_same hz.1 l0 T0
  obtain ⟨z, hzz⟩ : ∃ z, z = (nmR S (a, wr) (u64 (whoN q ev0)) 0 (13 * q.T - 1)).1 := ⟨_, rfl⟩
  obtain ⟨y1, hy1⟩ : ∃ z, z = (nmR S (a, wr) (u64 (whoN q ev0)) 0 (13 * q.T - 1)).2 := ⟨_, rfl⟩
  obtain ⟨thI, hth⟩ : ∃ t, t = (whoP q (nmR S) ev0 (a, wr)).1.th := ⟨_, rfl⟩
  rw [hw2] at hX
  rw [hwe] at hX
  rw [← hth] at hX t0 t1 ht2
  rw [← hy1] at hX HT1
  rw [← hzz] at HT1 hz hk2 ht2
  obtain ⟨th, hth3⟩ : ∃ t : Nat, thI = (t : Int) := Int.eq_ofNat_of_zero_le t0
  subst hth3
  have hth6 : th < 6 := by omega
  clear hwe hw2 hkd hth hzz hy1
  have hz2 : 0 ≤ (nmR S y1 (u64 0) 0 5).1 ∧ (nmR S y1 (u64 0) 0 5).1 ≤ 5 := nmR_val (by omega)
  have HT2 := Lib.hid (fun w1 h => rtold_any gr S y1 (u64 0) 5 (by omega) w1 h)
  obtain ⟨z2, hz2'⟩ : ∃ z, z = (nmR S y1 (u64 0) 0 5).1 := ⟨_, rfl⟩
  obtain ⟨y2, hy2'⟩ : ∃ z, z = (nmR S y1 (u64 0) 0 5).2 := ⟨_, rfl⟩
  have hz3 : 0 ≤ (nmR S y2 (u64 (0 - q.clk)) 0 (1099511627776 - q.clk)).1 ∧ (nmR S y2 (u64 (0 - q.clk)) 0 (1099511627776 - q.clk)).1 ≤ (1099511627776 - q.clk) := nmR_val (by omega)
  have HT3 := Lib.hid (fun w1 h => rtold_any gr S y2 (u64 (0 - q.clk)) (1099511627776 - q.clk) (by omega) w1 h)
  have HX : Hid (rdX q S a wr = ((⟨1, (th : Int), z2, 0, q.clk + (nmR S y2 (u64 (0 - q.clk)) 0 (1099511627776 - q.clk)).1, 0, 0⟩ : Ev), (nmR S y2 (u64 (0 - q.clk)) 0 (1099511627776 - q.clk)).2)) := by rw [hz2', hy2']; exact hX
  obtain ⟨z3, hz3'⟩ : ∃ z, z = (nmR S y2 (u64 (0 - q.clk)) 0 (1099511627776 - q.clk)).1 := ⟨_, rfl⟩
  obtain ⟨y3, hy3'⟩ : ∃ z, z = (nmR S y2 (u64 (0 - q.clk)) 0 (1099511627776 - q.clk)).2 := ⟨_, rfl⟩
  rw [← hz2', ← hy2'] at HT2
  rw [← hz2'] at hz2
  rw [← hz3', ← hy3'] at HT3 HX
  rw [← hz3'] at hz3
  clear hX hz2' hy2' hz3' hy3'
  have hle : gr < w.heap.size := hr.1.lt
  obtain ⟨wA, hwA⟩ : ∃ W, w.alloc (.cells (evC ev0) 46) = W := ⟨_, rfl⟩
  have bA : Below w.heap.size w wA := by rw [← hwA]; exact (Below.refl _ _).alloc (Nat.le_refl _) _
  have HB : Hid (RdB w gr gc w.heap.size S q (a, wr) wA) := by
    refine ⟨⟨(bA.block gr hle).trans hr.1, hr.2⟩, hc.below bA, by rw [← hwA]; exact heap_alloc_new w _, ⟨bA.os, bA.tape, bA.output, bA.size, fun i hi _ _ => bA.block i hi⟩, hle, hc.lt, hne, Nat.le_refl _⟩
  have HWA : Hid (w.alloc (.cells #[.int .u8 0, .int .i64 0, .int .i64 0, .int .i64 0, .int .i64 0, .int .i64 0, .int .u8 0] 46) = wA) := hwA
  have x0 : (w.alloc (.cells #[.int .u8 0, .int .i64 0, .int .i64 0, .int .i64 0, .int .i64 0, .int .i64 0, .int .u8 0] 46)).cell? ⟨gc, 0, none⟩ = some (.int .i64 q.T) := by rw [HWA.out]; exact HB.out.cd.cT
  clear bA hwA hr hc hle
  go_enter Tryd.func21, Tryd.ntmps21
  go_wp2_with fail
  rw [HWA.out]
  refine (HT1.out wA HB.out.rd).mono ?_
  rintro _ wB ⟨rfl, h1, h2⟩
  have HB2 := Lib.hid (HB.out.told h1 h2)
  clear h1 h2 x0 HT1
  go_wp2_with fail
  refine rgRd2 rfl _ (by simp) wB w gr gc w.heap.size S q y1 z hq hz HB2.out rfl rfl ?_
  rintro w1 ⟨hb2, hs2, hev2⟩
  simp only [putAll, List.setIfInBounds_toArray, List.set_cons_succ, List.set_cons_zero]
  rw [hk2, ht2] at hev2
  obtain ⟨g7, hg7⟩ : ∃ g, g = wB.heap.size := ⟨_, rfl⟩
  rw [← hg7] at hev2 hs2 ⊢
  have HM : Hid (RdM w gr gc w.heap.size g7 S q ⟨1, (th : Int), 0, 0, 0, 0, 0⟩ y1 w1) := ⟨hb2, hev2, by have := HB2.out.rs.lt; omega⟩
  have x0 := HM.out.ev.c0
  simp only at x0
  have xS := HM.out.b.cd.cS
  have xV := HM.out.b.cd.cV
  have xC := HM.out.b.cd.cc
  have xP : w1.cell? ⟨gr, 1, none⟩ = some (.int .i64 (y1.1 : Int)) := by
    have h := HM.out.b.rd.1.cell 1
    simpa using h
  clear hb2 hs2 hev2 hg7 HB2 HB HWA hk2 ht2
  go_wp2_with fail
  clear x0 xS xV xC
  clear xP
  refine (HT2.out w1 HM.out.b.rd).mono ?_
  rintro _ w2 ⟨rfl, h1, h2⟩
  have HM := Lib.hid (HM.out.told h1 h2)
  clear h1 h2
  have x3 := HM.out.ev.c2
  have f3 := HM.out.ev.fr 2
  simp only at x3
  go_wp2_with fail
  clear x3 f3
  have HM : Hid (RdM w gr gc w.heap.size g7 S q ⟨1, (th : Int), z2, 0, 0, 0, 0⟩ y2 (w2.setCell ⟨g7, 2, none⟩ (.int .i64 z2))) := HM.out.set 2 _ rfl
  refine rgRd6 rfl _ (by simp) _ w gr gc w.heap.size g7 S q ⟨1, (th : Int), z2, 0, 0, 0, 0⟩ ⟨1, (th : Int), z2, 0, q.clk + z3, 0, 0⟩ y2 y3 z3 hq HM.out hz3 rfl HT3.out rfl rfl rfl ?_
  intro w3 hM3
  simp only [putAll, List.setIfInBounds_toArray, List.set_cons_succ, List.set_cons_zero]
  have HM := Lib.hid hM3
  clear hM3
  by_cases hw9 : (y3).2 = 0
  · have HWR := Lib.hid (rref_wrong_no gr S (y3).1 w3 (by have h := HM.out.b.rd; rw [hw9] at h; exact h))
    have HKN := Lib.hid (rknows_any q (⟨1, (th : Int), z2, 0, q.clk + z3, 0, 0⟩) gc w3 HM.out.b.cd ⟨by simp, by simp; omega⟩ (by simp))
    go_wp2_with fail
    refine HWR.out.mono ?_
    rintro _ _ ⟨rfl, rfl⟩
    go_wp2_with (first
      | (refine wpList_load_row rfl _ _ rfl g7 rfl 46 (evC (⟨1, (th : Int), z2, 0, q.clk + z3, 0, 0⟩)) (0, 0) _ HM.out.ev Tryd.underlying46 rfl (by kernel_rfl) ?_)
      | fail)
    refine HKN.out.mono ?_
    rintro _ w8 ⟨rfl, hk1, hk2⟩
    have E8 := Lib.hid (HM.out.ev.same (hk2.block g7 HM.out.ev.lt (by have := HM.out.n5; have := HM.out.b.n2; have := HM.out.b.n4; omega) (by simp)))
    have R8 := Lib.hid (HM.out.b.rs.same (hk2.block w.heap.size HM.out.b.rs.lt (by have := HM.out.b.n2; omega) (by simp)))
    obtain ⟨q1, q2⟩ := row_set (cs := evC (⟨1, (th : Int), z2, 0, q.clk + z3, 0, 0⟩)) R8.out
    have Q1 := Lib.hid q1
    have HF := Lib.hid (rd_fin HM.out hk1 hk2 q2)
    clear q1 q2 hk1 hk2
    go_wp2_with (first
      | (refine wpList_load_row rfl _ _ rfl g7 rfl 46 (evC (⟨1, (th : Int), z2, 0, q.clk + z3, 0, 0⟩)) (0, 0) _ E8.out Tryd.underlying46 rfl (by kernel_rfl) ?_)
      | (refine wpList_store_row rfl _ _ _ rfl w.heap.size (evC (⟨1, (th : Int), z2, 0, q.clk + z3, 0, 0⟩)) rfl rfl 46 _ R8.out (by kernel_rfl) rfl (by simp [evC, Value.oneCell']) ?_)
      | fail)
    refine bodyPost_ret (results_ct rfl _ _ w.heap.size 46 _ (0, 0) _ rfl Q1.out Tryd.underlying46 rfl (by kernel_rfl)) rfl ?_
    rw [HX.out]
    unfold RdEnd
    simp only [hw9, if_true]
    refine ⟨rfl, ?_, HF.out.2.1, HF.out.2.2⟩
    have h := HF.out.1
    rw [hw9] at h
    exact h
  · have HWR := Lib.hid (rref_wrong_yes gr S (y3).1 (y3).2 hw9 w3 HM.out.b.rd)
    have q9 : ((y3).2 != 0) = true := bne_iff_ne.2 hw9
    go_wp2_with fail
    refine HWR.out.mono ?_
    rintro _ w8 ⟨rfl, n8, hn8⟩
    have b8 : Below w3.heap.size w3 w8 := by rw [hn8]; exact ⟨rfl, rfl, rfl, Nat.le_refl _, fun _ _ => rfl⟩
    have H8 := Lib.hid (HM.out.b.below b8)
    obtain ⟨q1, q2⟩ := row_set (cs := evC ev0) H8.out.rs
    have Q1 := Lib.hid q1
    have HF := Lib.hid (rd_fin0 H8.out q2)
    clear q1 q2 b8 hn8
    go_wp2_with (first
      | (refine wpList_store_row rfl _ _ _ rfl w.heap.size (evC ev0) rfl rfl 46 _ H8.out.rs (by kernel_rfl) rfl (by simp [evC, Value.oneCell']) ?_)
      | fail)
    refine bodyPost_ret (results_ct rfl _ _ w.heap.size 46 _ (0, 0) _ rfl Q1.out Tryd.underlying46 rfl (by kernel_rfl)) rfl ?_
    rw [HX.out]
    unfold RdEnd
    simp only [hw9, if_false]
    exact ⟨rfl, HF.out.1, HF.out.2.1, HF.out.2.2⟩
set_option maxHeartbeats 4000000 in
theorem rread_2 (q : Cd) (hq : CdOk q) (gr gc : Nat) (S : ByteArray) (a : Nat) (wr : Int) (w : World) (hr : RRd w gr S a wr) (hc : RCod w gc q) (hne : gr ≠ gc) (hkd : (whoP q (nmR S) ev0 (a, wr)).1.kd = 2) :
    Calls Tryd.prog 21 #[.pointer (some ⟨gc, 0, none⟩), .pointer (some ⟨gr, 0, none⟩)] w (RdEnd gr gc S q (rdX q S a wr) w) := by
  have T0 := hq.T0; have T1 := hq.T1; have V0 := hq.V0; have V1 := hq.V1; have S0 := hq.S0; have S1 := hq.S1; have c0 := hq.c0; have c1 := hq.c1; have l0 := hq.l0
  obtain ⟨_, _, t0, t1⟩ := who_b q hq S (a, wr) ev0
  have hz : 0 ≤ (nmR S (a, wr) (u64 (whoN q ev0)) 0 (13 * q.T - 1)).1 ∧ (nmR S (a, wr) (u64 (whoN q ev0)) 0 (13 * q.T - 1)).1 ≤ 13 * q.T - 1 := nmR_val (by omega)
  have HT1 := Lib.hid (fun w1 h => rtold_any gr S (a, wr) (u64 (whoN q ev0)) (13 * q.T - 1) (by omega) w1 h)
  have hX : rdX q S a wr = partP q (nmR S) (whoP q (nmR S) ev0 (a, wr)).1 (whoP q (nmR S) ev0 (a, wr)).2 := rfl
  have hwe : (whoP q (nmR S) ev0 (a, wr)).1 = ⟨2, (whoP q (nmR S) ev0 (a, wr)).1.th, 0, 0, 0, 0, 0⟩ := by rw [← hkd]; rfl
  have hw2 : (whoP q (nmR S) ev0 (a, wr)).2 = (nmR S (a, wr) (u64 (whoN q ev0)) 0 (13 * q.T - 1)).2 := rfl
  have hk2 : (nmR S (a, wr) (u64 (whoN q ev0)) 0 (13 * q.T - 1)).1.tdiv q.T + 1 = 2 := hkd
  have ht2 : ((nmR S (a, wr) (u64 (whoN q ev0)) 0 (13 * q.T - 1)).1.tmod q.T + q.last).tmod q.T = (whoP q (nmR S) ev0 (a, wr)).1.th := who_same hz.1 l0 T0
  obtain ⟨z, hzz⟩ : ∃ z, z = (nmR S (a, wr) (u64 (whoN q ev0)) 0 (13 * q.T - 1)).1 := ⟨_, rfl⟩
  obtain ⟨y1, hy1⟩ : ∃ z, z = (nmR S (a, wr) (u64 (whoN q ev0)) 0 (13 * q.T - 1)).2 := ⟨_, rfl⟩
  obtain ⟨thI, hth⟩ : ∃ t, t = (whoP q (nmR S) ev0 (a, wr)).1.th := ⟨_, rfl⟩
  rw [hw2] at hX
  rw [hwe] at hX
  rw [← hth] at hX t0 t1 ht2
  rw [← hy1] at hX HT1
  rw [← hzz] at HT1 hz hk2 ht2
  obtain ⟨th, hth3⟩ : ∃ t : Nat, thI = (t : Int) := Int.eq_ofNat_of_zero_le t0
  subst hth3
  have hth6 : th < 6 := by omega
  clear hwe hw2 hkd hth hzz hy1
  have hbg := hq.bg th
  have hz2 : 0 ≤ (nmR S y1 (u64 0) 0 (q.S - 1)).1 ∧ (nmR S y1 (u64 0) 0 (q.S - 1)).1 ≤ q.S - 1 := nmR_val (by omega)
  have HT2 := Lib.hid (fun w1 h => rtold_any gr S y1 (u64 0) (q.S - 1) (by omega) w1 h)
  obtain ⟨z2, hz2'⟩ : ∃ z, z = (nmR S y1 (u64 0) 0 (q.S - 1)).1 := ⟨_, rfl⟩
  obtain ⟨y2, hy2'⟩ : ∃ z, z = (nmR S y1 (u64 0) 0 (q.S - 1)).2 := ⟨_, rfl⟩
  have hz3 : 0 ≤ (nmR S y2 (u64 (q.bg th - 0)) 0 (q.bg th)).1 ∧ (nmR S y2 (u64 (q.bg th - 0)) 0 (q.bg th)).1 ≤ q.bg th := nmR_val (by omega)
  have HT3 := Lib.hid (fun w1 h => rtold_any gr S y2 (u64 (q.bg th - 0)) (q.bg th) (by omega) w1 h)
  have HX : Hid (rdX q S a wr = ((⟨2, (th : Int), 0, z2, q.bg th - (nmR S y2 (u64 (q.bg th - 0)) 0 (q.bg th)).1, 0, 0⟩ : Ev), (nmR S y2 (u64 (q.bg th - 0)) 0 (q.bg th)).2)) := by rw [hz2', hy2']; exact hX
  obtain ⟨z3, hz3'⟩ : ∃ z, z = (nmR S y2 (u64 (q.bg th - 0)) 0 (q.bg th)).1 := ⟨_, rfl⟩
  obtain ⟨y3, hy3'⟩ : ∃ z, z = (nmR S y2 (u64 (q.bg th - 0)) 0 (q.bg th)).2 := ⟨_, rfl⟩
  rw [← hz2', ← hy2'] at HT2
  rw [← hz2'] at hz2
  rw [← hz3', ← hy3'] at HT3 HX
  rw [← hz3'] at hz3
  clear hX hz2' hy2' hz3' hy3'
  have hle : gr < w.heap.size := hr.1.lt
  obtain ⟨wA, hwA⟩ : ∃ W, w.alloc (.cells (evC ev0) 46) = W := ⟨_, rfl⟩
  have bA : Below w.heap.size w wA := by rw [← hwA]; exact (Below.refl _ _).alloc (Nat.le_refl _) _
  have HB : Hid (RdB w gr gc w.heap.size S q (a, wr) wA) := by
    refine ⟨⟨(bA.block gr hle).trans hr.1, hr.2⟩, hc.below bA, by rw [← hwA]; exact heap_alloc_new w _, ⟨bA.os, bA.tape, bA.output, bA.size, fun i hi _ _ => bA.block i hi⟩, hle, hc.lt, hne, Nat.le_refl _⟩
  have HWA : Hid (w.alloc (.cells #[.int .u8 0, .int .i64 0, .int .i64 0, .int .i64 0, .int .i64 0, .int .i64 0, .int .u8 0] 46) = wA) := hwA
  have x0 : (w.alloc (.cells #[.int .u8 0, .int .i64 0, .int .i64 0, .int .i64 0, .int .i64 0, .int .i64 0, .int .u8 0] 46)).cell? ⟨gc, 0, none⟩ = some (.int .i64 q.T) := by rw [HWA.out]; exact HB.out.cd.cT
  clear bA hwA hr hc hle
  go_enter Tryd.func21, Tryd.ntmps21
  go_wp2_with fail
  rw [HWA.out]
  refine (HT1.out wA HB.out.rd).mono ?_
  rintro _ wB ⟨rfl, h1, h2⟩
  have HB2 := Lib.hid (HB.out.told h1 h2)
  clear h1 h2 x0 HT1
  go_wp2_with fail
  refine rgRd2 rfl _ (by simp) wB w gr gc w.heap.size S q y1 z hq hz HB2.out rfl rfl ?_
  rintro w1 ⟨hb2, hs2, hev2⟩
  simp only [putAll, List.setIfInBounds_toArray, List.set_cons_succ, List.set_cons_zero]
  rw [hk2, ht2] at hev2
  obtain ⟨g7, hg7⟩ : ∃ g, g = wB.heap.size := ⟨_, rfl⟩
  rw [← hg7] at hev2 hs2 ⊢
  have HM : Hid (RdM w gr gc w.heap.size g7 S q ⟨2, (th : Int), 0, 0, 0, 0, 0⟩ y1 w1) := ⟨hb2, hev2, by have := HB2.out.rs.lt; omega⟩
  have x0 := HM.out.ev.c0
  simp only at x0
  have xS := HM.out.b.cd.cS
  have xV := HM.out.b.cd.cV
  have xC := HM.out.b.cd.cc
  have xP : w1.cell? ⟨gr, 1, none⟩ = some (.int .i64 (y1.1 : Int)) := by
    have h := HM.out.b.rd.1.cell 1
    simpa using h
  clear hb2 hs2 hev2 hg7 HB2 HB HWA hk2 ht2
  go_wp2_with fail
  clear x0 xS xV xC
  clear xP
  refine (HT2.out w1 HM.out.b.rd).mono ?_
  rintro _ w2 ⟨rfl, h1, h2⟩
  have HM := Lib.hid (HM.out.told h1 h2)
  clear h1 h2
  have x3 := HM.out.ev.c3
  have f3 := HM.out.ev.fr 3
  simp only at x3
  go_wp2_with fail
  clear x3 f3
  have HM : Hid (RdM w gr gc w.heap.size g7 S q ⟨2, (th : Int), 0, z2, 0, 0, 0⟩ y2 (w2.setCell ⟨g7, 3, none⟩ (.int .i64 z2))) := HM.out.set 3 _ rfl
  refine rgRd9 rfl _ (by simp) _ w gr gc w.heap.size g7 S q ⟨2, (th : Int), 0, z2, 0, 0, 0⟩ ⟨2, (th : Int), 0, z2, q.bg th - z3, 0, 0⟩ y2 y3 z3 hq HM.out th hth6 rfl rfl hz3 (by omega) rfl HT3.out rfl rfl rfl ?_
  intro w3 hM3
  simp only [putAll, List.setIfInBounds_toArray, List.set_cons_succ, List.set_cons_zero]
  have HM := Lib.hid hM3
  clear hM3
  by_cases hw9 : (y3).2 = 0
  · have HWR := Lib.hid (rref_wrong_no gr S (y3).1 w3 (by have h := HM.out.b.rd; rw [hw9] at h; exact h))
    have HKN := Lib.hid (rknows_any q (⟨2, (th : Int), 0, z2, q.bg th - z3, 0, 0⟩) gc w3 HM.out.b.cd ⟨by simp, by simp; omega⟩ (by simp))
    go_wp2_with fail
    refine HWR.out.mono ?_
    rintro _ _ ⟨rfl, rfl⟩
    go_wp2_with (first
      | (refine wpList_load_row rfl _ _ rfl g7 rfl 46 (evC (⟨2, (th : Int), 0, z2, q.bg th - z3, 0, 0⟩)) (0, 0) _ HM.out.ev Tryd.underlying46 rfl (by kernel_rfl) ?_)
      | fail)
    refine HKN.out.mono ?_
    rintro _ w8 ⟨rfl, hk1, hk2⟩
    have E8 := Lib.hid (HM.out.ev.same (hk2.block g7 HM.out.ev.lt (by have := HM.out.n5; have := HM.out.b.n2; have := HM.out.b.n4; omega) (by simp)))
    have R8 := Lib.hid (HM.out.b.rs.same (hk2.block w.heap.size HM.out.b.rs.lt (by have := HM.out.b.n2; omega) (by simp)))
    obtain ⟨q1, q2⟩ := row_set (cs := evC (⟨2, (th : Int), 0, z2, q.bg th - z3, 0, 0⟩)) R8.out
    have Q1 := Lib.hid q1
    have HF := Lib.hid (rd_fin HM.out hk1 hk2 q2)
    clear q1 q2 hk1 hk2
    go_wp2_with (first
      | (refine wpList_load_row rfl _ _ rfl g7 rfl 46 (evC (⟨2, (th : Int), 0, z2, q.bg th - z3, 0, 0⟩)) (0, 0) _ E8.out Tryd.underlying46 rfl (by kernel_rfl) ?_)
      | (refine wpList_store_row rfl _ _ _ rfl w.heap.size (evC (⟨2, (th : Int), 0, z2, q.bg th - z3, 0, 0⟩)) rfl rfl 46 _ R8.out (by kernel_rfl) rfl (by simp [evC, Value.oneCell']) ?_)
      | fail)
    refine bodyPost_ret (results_ct rfl _ _ w.heap.size 46 _ (0, 0) _ rfl Q1.out Tryd.underlying46 rfl (by kernel_rfl)) rfl ?_
    rw [HX.out]
    unfold RdEnd
    simp only [hw9, if_true]
    refine ⟨rfl, ?_, HF.out.2.1, HF.out.2.2⟩
    have h := HF.out.1
    rw [hw9] at h
    exact h
  · have HWR := Lib.hid (rref_wrong_yes gr S (y3).1 (y3).2 hw9 w3 HM.out.b.rd)
    have q9 : ((y3).2 != 0) = true := bne_iff_ne.2 hw9
    go_wp2_with fail
    refine HWR.out.mono ?_
    rintro _ w8 ⟨rfl, n8, hn8⟩
    have b8 : Below w3.heap.size w3 w8 := by rw [hn8]; exact ⟨rfl, rfl, rfl, Nat.le_refl _, fun _ _ => rfl⟩
    have H8 := Lib.hid (HM.out.b.below b8)
    obtain ⟨q1, q2⟩ := row_set (cs := evC ev0) H8.out.rs
    have Q1 := Lib.hid q1
    have HF := Lib.hid (rd_fin0 H8.out q2)
    clear q1 q2 b8 hn8
    go_wp2_with (first
      | (refine wpList_store_row rfl _ _ _ rfl w.heap.size (evC ev0) rfl rfl 46 _ H8.out.rs (by kernel_rfl) rfl (by simp [evC, Value.oneCell']) ?_)
      | fail)
    refine bodyPost_ret (results_ct rfl _ _ w.heap.size 46 _ (0, 0) _ rfl Q1.out Tryd.underlying46 rfl (by kernel_rfl)) rfl ?_
    rw [HX.out]
    unfold RdEnd
    simp only [hw9, if_false]
    exact ⟨rfl, HF.out.1, HF.out.2.1, HF.out.2.2⟩
set_option maxHeartbeats 4000000 in
theorem rread_12 (q : Cd) (hq : CdOk q) (gr gc : Nat) (S : ByteArray) (a : Nat) (wr : Int) (w : World) (hr : RRd w gr S a wr) (hc : RCod w gc q) (hne : gr ≠ gc) (hkd : (whoP q (nmR S) ev0 (a, wr)).1.kd = 12) :
    Calls Tryd.prog 21 #[.pointer (some ⟨gc, 0, none⟩), .pointer (some ⟨gr, 0, none⟩)] w (RdEnd gr gc S q (rdX q S a wr) w) := by
  have T0 := hq.T0; have T1 := hq.T1; have V0 := hq.V0; have V1 := hq.V1; have S0 := hq.S0; have S1 := hq.S1; have c0 := hq.c0; have c1 := hq.c1; have l0 := hq.l0
  obtain ⟨_, _, t0, t1⟩ := who_b q hq S (a, wr) ev0
  have hz : 0 ≤ (nmR S (a, wr) (u64 (whoN q ev0)) 0 (13 * q.T - 1)).1 ∧ (nmR S (a, wr) (u64 (whoN q ev0)) 0 (13 * q.T - 1)).1 ≤ 13 * q.T - 1 := nmR_val (by omega)
  have HT1 := Lib.hid (fun w1 h => rtold_any gr S (a, wr) (u64 (whoN q ev0)) (13 * q.T - 1) (by omega) w1 h)
  have hX : rdX q S a wr = partP q (nmR S) (whoP q (nmR S) ev0 (a, wr)).1 (whoP q (nmR S) ev0 (a, wr)).2 := rfl
  have hwe : (whoP q (nmR S) ev0 (a, wr)).1 = ⟨12, (whoP q (nmR S) ev0 (a, wr)).1.th, 0, 0, 0, 0, 0⟩ := by rw [← hkd]; rfl
  have hw2 : (whoP q (nmR S) ev0 (a, wr)).2 = (nmR S (a, wr) (u64 (whoN q ev0)) 0 (13 * q.T - 1)).2 := rfl
  have hk2 : (nmR S (a, wr) (u64 (whoN q ev0)) 0 (13 * q.T - 1)).1.tdiv q.T + 1 = 12 := hkd
  have ht2 : ((nmR S (a, wr) (u64 (whoN q ev0)) 0 (13 * q.T - 1)).1.tmod q.T + q.last).tmod q.T = (whoP q (nmR S) ev0 (a, wr)).1.th := who_same hz.1 l0 T0
  obtain ⟨z, hzz⟩ : ∃ z, z = (nmR S (a, wr) (u64 (whoN q ev0)) 0 (13 * q.T - 1)).1 := ⟨_, rfl⟩
  obtain ⟨y1, hy1⟩ : ∃ z, z = (nmR S (a, wr) (u64 (whoN q ev0)) 0 (13 * q.T - 1)).2 := ⟨_, rfl⟩
  obtain ⟨thI, hth⟩ : ∃ t, t = (whoP q (nmR S) ev0 (a, wr)).1.th := ⟨_, rfl⟩
  rw [hw2] at hX
  rw [hwe] at hX
  rw [← hth] at hX t0 t1 ht2
  rw [← hy1] at hX HT1
  rw [← hzz] at HT1 hz hk2 ht2
  obtain ⟨th, hth3⟩ : ∃ t : Nat, thI = (t : Int) := Int.eq_ofNat_of_zero_le t0
  subst hth3
  have hth6 : th < 6 := by omega
  clear hwe hw2 hkd hth hzz hy1
  have HX : Hid (rdX q S a wr = ((⟨12, (th : Int), 0, 0, 0, 0, 0⟩ : Ev), y1)) := hX
  clear hX
  have hle : gr < w.heap.size := hr.1.lt
  obtain ⟨wA, hwA⟩ : ∃ W, w.alloc (.cells (evC ev0) 46) = W := ⟨_, rfl⟩
  have bA : Below w.heap.size w wA := by rw [← hwA]; exact (Below.refl _ _).alloc (Nat.le_refl _) _
  have HB : Hid (RdB w gr gc w.heap.size S q (a, wr) wA) := by
    refine ⟨⟨(bA.block gr hle).trans hr.1, hr.2⟩, hc.below bA, by rw [← hwA]; exact heap_alloc_new w _, ⟨bA.os, bA.tape, bA.output, bA.size, fun i hi _ _ => bA.block i hi⟩, hle, hc.lt, hne, Nat.le_refl _⟩
  have HWA : Hid (w.alloc (.cells #[.int .u8 0, .int .i64 0, .int .i64 0, .int .i64 0, .int .i64 0, .int .i64 0, .int .u8 0] 46) = wA) := hwA
  have x0 : (w.alloc (.cells #[.int .u8 0, .int .i64 0, .int .i64 0, .int .i64 0, .int .i64 0, .int .i64 0, .int .u8 0] 46)).cell? ⟨gc, 0, none⟩ = some (.int .i64 q.T) := by rw [HWA.out]; exact HB.out.cd.cT
  clear bA hwA hr hc hle
  go_enter Tryd.func21, Tryd.ntmps21
  go_wp2_with fail
  rw [HWA.out]
  refine (HT1.out wA HB.out.rd).mono ?_
  rintro _ wB ⟨rfl, h1, h2⟩
  have HB2 := Lib.hid (HB.out.told h1 h2)
  clear h1 h2 x0 HT1
  go_wp2_with fail
  refine rgRd2 rfl _ (by simp) wB w gr gc w.heap.size S q y1 z hq hz HB2.out rfl rfl ?_
  rintro w1 ⟨hb2, hs2, hev2⟩
  simp only [putAll, List.setIfInBounds_toArray, List.set_cons_succ, List.set_cons_zero]
  rw [hk2, ht2] at hev2
  obtain ⟨g7, hg7⟩ : ∃ g, g = wB.heap.size := ⟨_, rfl⟩
  rw [← hg7] at hev2 hs2 ⊢
  have HM : Hid (RdM w gr gc w.heap.size g7 S q ⟨12, (th : Int), 0, 0, 0, 0, 0⟩ y1 w1) := ⟨hb2, hev2, by have := HB2.out.rs.lt; omega⟩
  have x0 := HM.out.ev.c0
  simp only at x0
  have xS := HM.out.b.cd.cS
  have xV := HM.out.b.cd.cV
  have xC := HM.out.b.cd.cc
  have xP : w1.cell? ⟨gr, 1, none⟩ = some (.int .i64 (y1.1 : Int)) := by
    have h := HM.out.b.rd.1.cell 1
    simpa using h
  clear hb2 hs2 hev2 hg7 HB2 HB HWA hk2 ht2
  go_wp2_with fail
  clear x0 xS xV xC
  clear xP
  by_cases hw9 : (y1).2 = 0
  · have HWR := Lib.hid (rref_wrong_no gr S (y1).1 w1 (by have h := HM.out.b.rd; rw [hw9] at h; exact h))
    have HKN := Lib.hid (rknows_any q (⟨12, (th : Int), 0, 0, 0, 0, 0⟩) gc w1 HM.out.b.cd ⟨by simp, by simp; omega⟩ (by simp))
    go_wp2_with fail
    refine HWR.out.mono ?_
    rintro _ _ ⟨rfl, rfl⟩
    go_wp2_with (first
      | (refine wpList_load_row rfl _ _ rfl g7 rfl 46 (evC (⟨12, (th : Int), 0, 0, 0, 0, 0⟩)) (0, 0) _ HM.out.ev Tryd.underlying46 rfl (by kernel_rfl) ?_)
      | fail)
    refine HKN.out.mono ?_
    rintro _ w8 ⟨rfl, hk1, hk2⟩
    have E8 := Lib.hid (HM.out.ev.same (hk2.block g7 HM.out.ev.lt (by have := HM.out.n5; have := HM.out.b.n2; have := HM.out.b.n4; omega) (by simp)))
    have R8 := Lib.hid (HM.out.b.rs.same (hk2.block w.heap.size HM.out.b.rs.lt (by have := HM.out.b.n2; omega) (by simp)))
    obtain ⟨q1, q2⟩ := row_set (cs := evC (⟨12, (th : Int), 0, 0, 0, 0, 0⟩)) R8.out
    have Q1 := Lib.hid q1
    have HF := Lib.hid (rd_fin HM.out hk1 hk2 q2)
    clear q1 q2 hk1 hk2
    go_wp2_with (first
      | (refine wpList_load_row rfl _ _ rfl g7 rfl 46 (evC (⟨12, (th : Int), 0, 0, 0, 0, 0⟩)) (0, 0) _ E8.out Tryd.underlying46 rfl (by kernel_rfl) ?_)
      | (refine wpList_store_row rfl _ _ _ rfl w.heap.size (evC (⟨12, (th : Int), 0, 0, 0, 0, 0⟩)) rfl rfl 46 _ R8.out (by kernel_rfl) rfl (by simp [evC, Value.oneCell']) ?_)
      | fail)
    refine bodyPost_ret (results_ct rfl _ _ w.heap.size 46 _ (0, 0) _ rfl Q1.out Tryd.underlying46 rfl (by kernel_rfl)) rfl ?_
    rw [HX.out]
    unfold RdEnd
    simp only [hw9, if_true]
    refine ⟨rfl, ?_, HF.out.2.1, HF.out.2.2⟩
    have h := HF.out.1
    rw [hw9] at h
    exact h
  · have HWR := Lib.hid (rref_wrong_yes gr S (y1).1 (y1).2 hw9 w1 HM.out.b.rd)
    have q9 : ((y1).2 != 0) = true := bne_iff_ne.2 hw9
    go_wp2_with fail
    refine HWR.out.mono ?_
    rintro _ w8 ⟨rfl, n8, hn8⟩
    have b8 : Below w1.heap.size w1 w8 := by rw [hn8]; exact ⟨rfl, rfl, rfl, Nat.le_refl _, fun _ _ => rfl⟩
    have H8 := Lib.hid (HM.out.b.below b8)
    obtain ⟨q1, q2⟩ := row_set (cs := evC ev0) H8.out.rs
    have Q1 := Lib.hid q1
    have HF := Lib.hid (rd_fin0 H8.out q2)
    clear q1 q2 b8 hn8
    go_wp2_with (first
      | (refine wpList_store_row rfl _ _ _ rfl w.heap.size (evC ev0) rfl rfl 46 _ H8.out.rs (by kernel_rfl) rfl (by simp [evC, Value.oneCell']) ?_)
      | fail)
    refine bodyPost_ret (results_ct rfl _ _ w.heap.size 46 _ (0, 0) _ rfl Q1.out Tryd.underlying46 rfl (by kernel_rfl)) rfl ?_
    rw [HX.out]
    unfold RdEnd
    simp only [hw9, if_false]
    exact ⟨rfl, HF.out.1, HF.out.2.1, HF.out.2.2⟩
set_option maxHeartbeats 4000000 in
theorem rread_13 (q : Cd) (hq : CdOk q) (gr gc : Nat) (S : ByteArray) (a : Nat) (wr : Int) (w : World) (hr : RRd w gr S a wr) (hc : RCod w gc q) (hne : gr ≠ gc) (hkd : (whoP q (nmR S) ev0 (a, wr)).1.kd = 13) :
    Calls Tryd.prog 21 #[.pointer (some ⟨gc, 0, none⟩), .pointer (some ⟨gr, 0, none⟩)] w (RdEnd gr gc S q (rdX q S a wr) w) := by
  have T0 := hq.T0; have T1 := hq.T1; have V0 := hq.V0; have V1 := hq.V1; have S0 := hq.S0; have S1 := hq.S1; have c0 := hq.c0; have c1 := hq.c1; have l0 := hq.l0
  obtain ⟨_, _, t0, t1⟩ := who_b q hq S (a, wr) ev0
  have hz : 0 ≤ (nmR S (a, wr) (u64 (whoN q ev0)) 0 (13 * q.T - 1)).1 ∧ (nmR S (a, wr) (u64 (whoN q ev0)) 0 (13 * q.T - 1)).1 ≤ 13 * q.T - 1 := nmR_val (by omega)
  have HT1 := Lib.hid (fun w1 h => rtold_any gr S (a, wr) (u64 (whoN q ev0)) (13 * q.T - 1) (by omega) w1 h)
  have hX : rdX q S a wr = partP q (nmR S) (whoP q (nmR S) ev0 (a, wr)).1 (whoP q (nmR S) ev0 (a, wr)).2 := rfl
  have hwe : (whoP q (nmR S) ev0 (a, wr)).1 = ⟨13, (whoP q (nmR S) ev0 (a, wr)).1.th, 0, 0, 0, 0, 0⟩ := by rw [← hkd]; rfl
  have hw2 : (whoP q (nmR S) ev0 (a, wr)).2 = (nmR S (a, wr) (u64 (whoN q ev0)) 0 (13 * q.T - 1)).2 := rfl
  have hk2 : (nmR S (a, wr) (u64 (whoN q ev0)) 0 (13 * q.T - 1)).1.tdiv q.T + 1 = 13 := hkd
  have ht2 : ((nmR S (a, wr) (u64 (whoN q ev0)) 0 (13 * q.T - 1)).1.tmod q.T + q.last).tmod q.T = (whoP q (nmR S) ev0 (a, wr)).1.th := who_same hz.1 l0 T0
  obtain ⟨z, hzz⟩ : ∃ z, z = (nmR S (a, wr) (u64 (whoN q ev0)) 0 (13 * q.T - 1)).1 := ⟨_, rfl⟩
  obtain ⟨y1, hy1⟩ : ∃ z, z = (nmR S (a, wr) (u64 (whoN q ev0)) 0 (13 * q.T - 1)).2 := ⟨_, rfl⟩
  obtain ⟨thI, hth⟩ : ∃ t, t = (whoP q (nmR S) ev0 (a, wr)).1.th := ⟨_, rfl⟩
  rw [hw2] at hX
  rw [hwe] at hX
  rw [← hth] at hX t0 t1 ht2
  rw [← hy1] at hX HT1
  rw [← hzz] at HT1 hz hk2 ht2
  obtain ⟨th, hth3⟩ : ∃ t : Nat, thI = (t : Int) := Int.eq_ofNat_of_zero_le t0
  subst hth3
  have hth6 : th < 6 := by omega
  clear hwe hw2 hkd hth hzz hy1
  have HX : Hid (rdX q S a wr = ((⟨13, (th : Int), 0, 0, 0, 0, 0⟩ : Ev), y1)) := hX
  clear hX
  have hle : gr < w.heap.size := hr.1.lt
  obtain ⟨wA, hwA⟩ : ∃ W, w.alloc (.cells (evC ev0) 46) = W := ⟨_, rfl⟩
  have bA : Below w.heap.size w wA := by rw [← hwA]; exact (Below.refl _ _).alloc (Nat.le_refl _) _
  have HB : Hid (RdB w gr gc w.heap.size S q (a, wr) wA) := by
    refine ⟨⟨(bA.block gr hle).trans hr.1, hr.2⟩, hc.below bA, by rw [← hwA]; exact heap_alloc_new w _, ⟨bA.os, bA.tape, bA.output, bA.size, fun i hi _ _ => bA.block i hi⟩, hle, hc.lt, hne, Nat.le_refl _⟩
  have HWA : Hid (w.alloc (.cells #[.int .u8 0, .int .i64 0, .int .i64 0, .int .i64 0, .int .i64 0, .int .i64 0, .int .u8 0] 46) = wA) := hwA
  have x0 : (w.alloc (.cells #[.int .u8 0, .int .i64 0, .int .i64 0, .int .i64 0, .int .i64 0, .int .i64 0, .int .u8 0] 46)).cell? ⟨gc, 0, none⟩ = some (.int .i64 q.T) := by rw [HWA.out]; exact HB.out.cd.cT
  clear bA hwA hr hc hle
  go_enter Tryd.func21, Tryd.ntmps21
  go_wp2_with fail
  rw [HWA.out]
  refine (HT1.out wA HB.out.rd).mono ?_
  rintro _ wB ⟨rfl, h1, h2⟩
  have HB2 := Lib.hid (HB.out.told h1 h2)
  clear h1 h2 x0 HT1
  go_wp2_with fail
  refine rgRd2 rfl _ (by simp) wB w gr gc w.heap.size S q y1 z hq hz HB2.out rfl rfl ?_
  rintro w1 ⟨hb2, hs2, hev2⟩
  simp only [putAll, List.setIfInBounds_toArray, List.set_cons_succ, List.set_cons_zero]
  rw [hk2, ht2] at hev2
  obtain ⟨g7, hg7⟩ : ∃ g, g = wB.heap.size := ⟨_, rfl⟩
  rw [← hg7] at hev2 hs2 ⊢
  have HM : Hid (RdM w gr gc w.heap.size g7 S q ⟨13, (th : Int), 0, 0, 0, 0, 0⟩ y1 w1) := ⟨hb2, hev2, by have := HB2.out.rs.lt; omega⟩
  have x0 := HM.out.ev.c0
  simp only at x0
  have xS := HM.out.b.cd.cS
  have xV := HM.out.b.cd.cV
  have xC := HM.out.b.cd.cc
  have xP : w1.cell? ⟨gr, 1, none⟩ = some (.int .i64 (y1.1 : Int)) := by
    have h := HM.out.b.rd.1.cell 1
    simpa using h
  clear hb2 hs2 hev2 hg7 HB2 HB HWA hk2 ht2
  go_wp2_with fail
  clear x0 xS xV xC
  clear xP
  by_cases hw9 : (y1).2 = 0
  · have HWR := Lib.hid (rref_wrong_no gr S (y1).1 w1 (by have h := HM.out.b.rd; rw [hw9] at h; exact h))
    have HKN := Lib.hid (rknows_any q (⟨13, (th : Int), 0, 0, 0, 0, 0⟩) gc w1 HM.out.b.cd ⟨by simp, by simp; omega⟩ (by simp))
    go_wp2_with fail
    refine HWR.out.mono ?_
    rintro _ _ ⟨rfl, rfl⟩
    go_wp2_with (first
      | (refine wpList_load_row rfl _ _ rfl g7 rfl 46 (evC (⟨13, (th : Int), 0, 0, 0, 0, 0⟩)) (0, 0) _ HM.out.ev Tryd.underlying46 rfl (by kernel_rfl) ?_)
      | fail)
    refine HKN.out.mono ?_
    rintro _ w8 ⟨rfl, hk1, hk2⟩
    have E8 := Lib.hid (HM.out.ev.same (hk2.block g7 HM.out.ev.lt (by have := HM.out.n5; have := HM.out.b.n2; have := HM.out.b.n4; omega) (by simp)))
    have R8 := Lib.hid (HM.out.b.rs.same (hk2.block w.heap.size HM.out.b.rs.lt (by have := HM.out.b.n2; omega) (by simp)))
    obtain ⟨q1, q2⟩ := row_set (cs := evC (⟨13, (th : Int), 0, 0, 0, 0, 0⟩)) R8.out
    have Q1 := Lib.hid q1
    have HF := Lib.hid (rd_fin HM.out hk1 hk2 q2)
    clear q1 q2 hk1 hk2
    go_wp2_with (first
      | (refine wpList_load_row rfl _ _ rfl g7 rfl 46 (evC (⟨13, (th : Int), 0, 0, 0, 0, 0⟩)) (0, 0) _ E8.out Tryd.underlying46 rfl (by kernel_rfl) ?_)
      | (refine wpList_store_row rfl _ _ _ rfl w.heap.size (evC (⟨13, (th : Int), 0, 0, 0, 0, 0⟩)) rfl rfl 46 _ R8.out (by kernel_rfl) rfl (by simp [evC, Value.oneCell']) ?_)
      | fail)
    refine bodyPost_ret (results_ct rfl _ _ w.heap.size 46 _ (0, 0) _ rfl Q1.out Tryd.underlying46 rfl (by kernel_rfl)) rfl ?_
    rw [HX.out]
    unfold RdEnd
    simp only [hw9, if_true]
    refine ⟨rfl, ?_, HF.out.2.1, HF.out.2.2⟩
    have h := HF.out.1
    rw [hw9] at h
    exact h
  · have HWR := Lib.hid (rref_wrong_yes gr S (y1).1 (y1).2 hw9 w1 HM.out.b.rd)
    have q9 : ((y1).2 != 0) = true := bne_iff_ne.2 hw9
    go_wp2_with fail
    refine HWR.out.mono ?_
    rintro _ w8 ⟨rfl, n8, hn8⟩
    have b8 : Below w1.heap.size w1 w8 := by rw [hn8]; exact ⟨rfl, rfl, rfl, Nat.le_refl _, fun _ _ => rfl⟩
    have H8 := Lib.hid (HM.out.b.below b8)
    obtain ⟨q1, q2⟩ := row_set (cs := evC ev0) H8.out.rs
    have Q1 := Lib.hid q1
    have HF := Lib.hid (rd_fin0 H8.out q2)
    clear q1 q2 b8 hn8
    go_wp2_with (first
      | (refine wpList_store_row rfl _ _ _ rfl w.heap.size (evC ev0) rfl rfl 46 _ H8.out.rs (by kernel_rfl) rfl (by simp [evC, Value.oneCell']) ?_)
      | fail)
    refine bodyPost_ret (results_ct rfl _ _ w.heap.size 46 _ (0, 0) _ rfl Q1.out Tryd.underlying46 rfl (by kernel_rfl)) rfl ?_
    rw [HX.out]
    unfold RdEnd
    simp only [hw9, if_false]
    exact ⟨rfl, HF.out.1, HF.out.2.1, HF.out.2.2⟩
end Go.Proofs.YtkfcglgikemefaaDoor
