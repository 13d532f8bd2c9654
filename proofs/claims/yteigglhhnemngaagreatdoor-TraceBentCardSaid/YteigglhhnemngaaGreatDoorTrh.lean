/-
  PACKAGE trace (layer 15): CONTRACT OF Decode. Conditions: what Unwrap answers is handed in; the table of names lies; bodies of 99999 bytes at most.
-/
import Derived.Test.YteigglhhnemngaaGreatDoorTrg
import Derived.Test.YteigglhhnemngaaGreatDoorQ14
namespace Go.Proofs.YteigglhhnemngaaGreatDoor
set_option maxRecDepth 100000
open Go.RowKit Go.Deep
set_option linter.unusedVariables false
set_option linter.unusedSimpArgs false
theorem results_ctt {P : Program} {fn : Func} {p q q2 : Tmp} {ty : TypeId} (h : fn.results = #[.cell p ty, .tmp q, .tmp q2]) (tmps : Array Value) (w : World) (g : Nat) (t : TypeId) (cs : Array Value) (fr : Nat × Nat) (d : TypeDesc)
    (hp : tmps.getD p undef = .pointer (some ⟨g, 0, none⟩)) (hg : w.heap[g]? = some (.cells cs t fr))
    (hu : P.underlying ty = some d) (hd : (match d with | .struct _ | .array _ _ => true | _ => false) = true) (hi : (P.info? ty).map (·.size) = some cs.size) :
    (results fn tmps).run P w = .ok (.tuple #[.agg cs, tmps.getD q undef, tmps.getD q2 undef]) w := by
  have hp' : tmps[p]?.getD undef = .pointer (some ⟨g, 0, none⟩) := by simpa using hp
  simp [results, h, hp', asAddr, run_loadVar_row w g t ty cs fr d hg hu hd hi]
theorem end_is {S : ByteArray} {a : Nat} {wr : Int} (ha : a ≤ S.size) : ((rEnd S a wr).2.2.1, (rEnd S a wr).2.2.2) = endR S (a, wr) := by
  have hd := drop_len S a
  unfold rEnd rd endR tEnd
  by_cases hw : wr = 0
  · by_cases hn : S.data.toList.drop a = []
    · rw [hn] at hd
      have hd : 0 = S.size - a := hd
      have h9 : ¬ a < S.size := by omega
      simp [hw, hn, h9]
    · have : (S.data.toList.drop a).length ≠ 0 := fun h => hn (List.eq_nil_of_length_eq_zero h)
      have h9 : a < S.size := by omega
      simp [hw, hn, h9]
  · simp [hw]
set_option maxHeartbeats 4000000 in
theorem decode_bad (s t : ByteArray) (place e : Nat) (he : e ≠ 0) (hu : UnwIs s t place e) (w : World) :
    Calls Tryz.prog 13 #[.string s] w fun r w' => r = .returned (.tuple #[trV 0 0 0 none 0 0, .int .i64 place, .int .i64 e]) ∧ Below w.heap.size w w' := by
  obtain ⟨w1, hw1⟩ : ∃ W, w.alloc (.cells #[.int .i64 0, .int .i64 0, .int .i64 0, .slice none 0 0] 25) = W := ⟨_, rfl⟩
  have b1 : Below w.heap.size w w1 := by rw [← hw1]; exact (Below.refl _ _).alloc (Nat.le_refl _) _
  have r1 : w1.heap[w.heap.size]? = some (.cells #[.int .i64 0, .int .i64 0, .int .i64 0, .slice none 0 0] 25 (0, 0)) := by rw [← hw1]; exact heap_alloc_new w _
  have HU := Lib.hid (hu w1)
  have HW1 := Lib.hid hw1
  have B1 := Lib.hid b1
  have R1 := Lib.hid r1
  have q0 : ((e : Int) != 0) = true := bne_iff_ne.2 (by omega)
  clear hu hw1 b1 r1 he
  go_enter Tryz.func13, Tryz.ntmps13
  go_wp2_with fail
  rw [HW1.out]
  refine HU.out.mono ?_
  rintro _ w2 ⟨rfl, b2⟩
  have R2 := Lib.hid (row_stays R1.out b2)
  obtain ⟨q1, q2⟩ := row_set (cs := #[.int .i64 0, .int .i64 0, .int .i64 0, .slice none 0 0]) R2.out
  have B2 := Lib.hid (B1.out.trans (b2.mono B1.out.size))
  have Q1 := Lib.hid q1
  have BF : Hid (Below w.heap.size w (w2.setRow w.heap.size #[.int .i64 0, .int .i64 0, .int .i64 0, .slice none 0 0])) := ⟨q2.os.trans B2.out.os, q2.tape.trans B2.out.tape, q2.output.trans B2.out.output, Nat.le_trans B2.out.size q2.size, fun i hi => (q2.block i (Nat.lt_of_lt_of_le hi B2.out.size) (by omega) (by simp)).trans (B2.out.block i hi)⟩
  clear b2 q1 q2
  go_wp2_with (first
    | (refine wpList_store_row rfl _ _ _ rfl w.heap.size #[.int .i64 0, .int .i64 0, .int .i64 0, .slice none 0 0] rfl rfl 25 _ R2.out (by kernel_rfl) rfl (by simp [Value.oneCell']) ?_)
    | fail)
  refine bodyPost_ret (results_ctt rfl _ _ w.heap.size 25 _ (0, 0) _ rfl Q1.out Tryz.underlying25 rfl (by kernel_rfl)) rfl ?_
  exact ⟨rfl, BF.out⟩
set_option maxHeartbeats 8000000 in
theorem decode_wrong (s b : ByteArray) (hu : UnwIs s b 0 0) (hb : b.size ≤ 99999) (hs : b.size + 4 ≤ s.size ∧ s.size ≤ 16777216) (hwr : (wrR b).2 ≠ 0) (w : World) (hek : Ek w) :
    Calls Tryz.prog 13 #[.string s] w fun r w' => r = .returned (.tuple #[trV 0 0 0 none 0 0, .int .i64 ((s.size - b.size - 4 + (wrR b).1 : Nat) : Int), .int .i64 (wrR b).2]) ∧ Below w.heap.size w w' := by
  obtain ⟨w1, hw1⟩ : ∃ W, w.alloc (.cells #[.int .i64 0, .int .i64 0, .int .i64 0, .slice none 0 0] 25) = W := ⟨_, rfl⟩
  have b1 : Below w.heap.size w w1 := by rw [← hw1]; exact (Below.refl _ _).alloc (Nat.le_refl _) _
  have r1 : w1.heap[w.heap.size]? = some (.cells #[.int .i64 0, .int .i64 0, .int .i64 0, .slice none 0 0] 25 (0, 0)) := by rw [← hw1]; exact heap_alloc_new w _
  have HU := Lib.hid (hu w1)
  have HW1 := Lib.hid hw1
  have B1 := Lib.hid b1
  have R1 := Lib.hid r1
  have HEK := Lib.hid hek
  have HNR := Lib.hid (fun W => new_reader b (by omega) W)
  have HRD := Lib.hid (fun gr W (h1 : Ek W) (h2 : Rd W gr b 0 0) => tread_any gr b W h1 h2 hb)
  obtain ⟨W9, hW9⟩ : ∃ x, x = wrR b := ⟨_, rfl⟩
  have hend : ((rEnd b (evsS b).2.1 (evsS b).2.2).2.2.1, (rEnd b (evsS b).2.1 (evsS b).2.2).2.2.2) = W9 := by
    rw [hW9]
    refine end_is ?_
    have h9 := wrR_ok b
    unfold wrR endR at h9
    split at h9 <;> exact h9.1
  have hwok := (wrR_ok b).1
  rw [← hW9] at hwr hwok ⊢
  have HEN := Lib.hid hend
  have hi : ((s.size - b.size - 4 + W9.1 : Nat) : Int) = (s.size : Int) - 4 - (b.size : Int) + (W9.1 : Int) := by omega
  rw [hi]
  have g1 : (s.size : Int) ≤ 16777216 := by omega
  have g2 : (b.size : Int) + 4 ≤ (s.size : Int) := by omega
  have g3 : (W9.1 : Int) ≤ (b.size : Int) := by omega
  clear hu hw1 b1 r1 hek hb hs hW9 hend hwok hi
  go_enter Tryz.func13, Tryz.ntmps13
  go_wp2_with fail
  rw [HW1.out]
  refine HU.out.mono ?_
  rintro _ w2 ⟨rfl, b2⟩
  have R2 := Lib.hid (row_stays R1.out b2)
  have B2 := Lib.hid (B1.out.trans (b2.mono B1.out.size))
  clear b2
  go_wp2_with fail
  refine (HNR.out w2).mono ?_
  rintro _ w3 ⟨rfl, h3⟩
  have b3 : Below w2.heap.size w2 w3 := by rw [h3]; exact (Below.refl _ _).alloc (Nat.le_refl _) _
  have d3 : Rd w3 w2.heap.size b 0 0 := by rw [h3]; exact rd_new b (by omega) w2
  obtain ⟨gr, hgr⟩ : ∃ g, g = w2.heap.size := ⟨_, rfl⟩
  have hlt : w.heap.size < gr := by rw [hgr]; exact (Array.getElem?_eq_some_iff.1 R2.out).1
  have HLT := Lib.hid hlt
  rw [← hgr] at d3 ⊢
  have D3 := Lib.hid d3
  have R3 := Lib.hid (row_stays R2.out b3)
  have B3 := Lib.hid (B2.out.trans (b3.mono B2.out.size))
  clear h3 b3 d3 hgr hlt R2 B2 HNR HU
  go_wp2_with fail
  refine (HRD.out gr w3 (HEK.out.below B3.out) D3.out).mono ?_
  rintro _ w4 ⟨A, c, rfl, o4, d4, k4⟩
  unfold trV
  obtain ⟨nn, hnn⟩ : ∃ n, n = (evsS b).1.length := ⟨_, rfl⟩
  rw [← hnn]
  have r4 : w4.heap[w.heap.size]? = some (.cells #[.int .i64 0, .int .i64 0, .int .i64 0, .slice none 0 0] 25 (0, 0)) := (k4.block w.heap.size (Array.getElem?_eq_some_iff.1 R3.out).1 (by have := HLT.out; omega) (by simp)).trans R3.out
  obtain ⟨q1, q2⟩ := row_set (cs := #[.int .i64 (z1 b).1, .int .i64 (z2 b).1, .int .i64 (z3 b).1, .slice A nn c]) r4
  have D5 : Hid (Rd (w4.setRow w.heap.size #[.int .i64 (z1 b).1, .int .i64 (z2 b).1, .int .i64 (z3 b).1, .slice A nn c]) gr b (evsS b).2.1 (evsS b).2.2) := ⟨(q2.block gr d4.1.lt (by have := HLT.out; omega) (by simp)).trans d4.1, d4.2⟩
  have B5 : Hid (Below w.heap.size w (w4.setRow w.heap.size #[.int .i64 (z1 b).1, .int .i64 (z2 b).1, .int .i64 (z3 b).1, .slice A nn c])) := ⟨(q2.os.trans k4.os).trans B3.out.os, (q2.tape.trans k4.tape).trans B3.out.tape, (q2.output.trans k4.output).trans B3.out.output, Nat.le_trans B3.out.size (Nat.le_trans k4.size q2.size), fun i hi => ((q2.block i (Nat.lt_of_lt_of_le hi (Nat.le_trans B3.out.size k4.size)) (by omega) (by simp)).trans (k4.block i (Nat.lt_of_lt_of_le hi B3.out.size) (by have := HLT.out; omega) (by simp))).trans (B3.out.block i hi)⟩
  have R4 := Lib.hid r4
  have R5 := Lib.hid q1
  clear o4 d4 k4 r4 q1 q2 hnn D3 R3 B3 HRD
  go_wp2_with (first
    | (refine wpList_store_row rfl _ _ _ rfl w.heap.size #[.int .i64 (z1 b).1, .int .i64 (z2 b).1, .int .i64 (z3 b).1, .slice A nn c] rfl rfl 25 _ R4.out (by kernel_rfl) rfl (by simp [Value.oneCell']) ?_)
    | fail)
  generalize w4.setRow w.heap.size #[.int .i64 (z1 b).1, .int .i64 (z2 b).1, .int .i64 (z3 b).1, .slice A nn c] = w5 at D5 B5 R5 ⊢
  refine (rEnd_any gr b _ _ w5 D5.out).mono ?_
  rintro _ w6 ⟨rfl, d6, k6⟩
  have e1 : (rEnd b (evsS b).2.1 (evsS b).2.2).2.2.1 = W9.1 := congrArg Prod.fst HEN.out
  have e2 : (rEnd b (evsS b).2.1 (evsS b).2.2).2.2.2 = W9.2 := congrArg Prod.snd HEN.out
  rw [e1, e2] at d6
  obtain ⟨re, hre⟩ : ∃ x, x = (rEnd b (evsS b).2.1 (evsS b).2.2).2.1 := ⟨_, rfl⟩
  rw [← hre]
  have R6 := Lib.hid ((k6.block w.heap.size (Array.getElem?_eq_some_iff.1 R5.out).1 (by have := HLT.out; omega) (by simp)).trans R5.out)
  have B6 : Hid (Below w.heap.size w w6) := ⟨k6.os.trans B5.out.os, k6.tape.trans B5.out.tape, k6.output.trans B5.out.output, Nat.le_trans B5.out.size k6.size, fun i hi => (k6.block i (Nat.lt_of_lt_of_le hi B5.out.size) (by have := HLT.out; omega) (by simp)).trans (B5.out.block i hi)⟩
  have HWR := Lib.hid (wrong_yes gr b W9.1 W9.2 hwr w6 d6)
  have q0 : (W9.2 != 0) = true := bne_iff_ne.2 hwr
  clear d6 k6 e1 e2 hre D5 B5 R5 R4 hwr HEN
  go_wp2_with fail
  refine HWR.out.mono ?_
  rintro _ w7 ⟨rfl, nd, h7⟩
  have b7 : Below w6.heap.size w6 w7 := by rw [h7]; exact drewN_belowW w6 nd
  have R7 := Lib.hid (row_stays R6.out b7)
  have B7 := Lib.hid (B6.out.trans (b7.mono B6.out.size))
  obtain ⟨q1, q2⟩ := row_set (cs := #[.int .i64 0, .int .i64 0, .int .i64 0, .slice none 0 0]) R7.out
  have Q1 := Lib.hid q1
  have BF : Hid (Below w.heap.size w (w7.setRow w.heap.size #[.int .i64 0, .int .i64 0, .int .i64 0, .slice none 0 0])) := ⟨q2.os.trans B7.out.os, q2.tape.trans B7.out.tape, q2.output.trans B7.out.output, Nat.le_trans B7.out.size q2.size, fun i hi => (q2.block i (Nat.lt_of_lt_of_le hi B7.out.size) (by omega) (by simp)).trans (B7.out.block i hi)⟩
  clear h7 b7 q1 q2 R6 B6 B7 HWR
  go_wp2_with (first
    | (refine wpList_store_row rfl _ _ _ rfl w.heap.size #[.int .i64 0, .int .i64 0, .int .i64 0, .slice none 0 0] rfl rfl 25 _ R7.out (by kernel_rfl) rfl (by simp [Value.oneCell']) ?_)
    | fail)
  refine bodyPost_ret (results_ctt rfl _ _ w.heap.size 25 _ (0, 0) _ rfl Q1.out Tryz.underlying25 rfl (by kernel_rfl)) rfl ?_
  exact ⟨rfl, BF.out⟩
set_option maxHeartbeats 8000000 in
theorem decode_ok (s b : ByteArray) (hu : UnwIs s b 0 0) (hb : b.size ≤ 99999) (hs : b.size + 4 ≤ s.size ∧ s.size ≤ 16777216) (hwr : (wrR b).2 = 0) (w : World) (hek : Ek w) :
    Calls Tryz.prog 13 #[.string s] w fun r w' => (∃ A c, r = .returned (.tuple #[trV (z1 b).1 (z2 b).1 (z3 b).1 A (evsS b).1.length c, .int .i64 0, .int .i64 0]) ∧ EvsAt w' w'.heap.size A (evsS b).1) ∧ Below w.heap.size w w' := by
  have HOKL := Lib.hid (wrR_back b hwr).2.2.2.1
  obtain ⟨w1, hw1⟩ : ∃ W, w.alloc (.cells #[.int .i64 0, .int .i64 0, .int .i64 0, .slice none 0 0] 25) = W := ⟨_, rfl⟩
  have b1 : Below w.heap.size w w1 := by rw [← hw1]; exact (Below.refl _ _).alloc (Nat.le_refl _) _
  have r1 : w1.heap[w.heap.size]? = some (.cells #[.int .i64 0, .int .i64 0, .int .i64 0, .slice none 0 0] 25 (0, 0)) := by rw [← hw1]; exact heap_alloc_new w _
  have HU := Lib.hid (hu w1)
  have HW1 := Lib.hid hw1
  have B1 := Lib.hid b1
  have R1 := Lib.hid r1
  have HEK := Lib.hid hek
  have HNR := Lib.hid (fun W => new_reader b (by omega) W)
  have HRD := Lib.hid (fun gr W (h1 : Ek W) (h2 : Rd W gr b 0 0) => tread_any gr b W h1 h2 hb)
  obtain ⟨W9, hW9⟩ : ∃ x, x = wrR b := ⟨_, rfl⟩
  have hend : ((rEnd b (evsS b).2.1 (evsS b).2.2).2.2.1, (rEnd b (evsS b).2.1 (evsS b).2.2).2.2.2) = W9 := by
    rw [hW9]
    refine end_is ?_
    have h9 := wrR_ok b
    unfold wrR endR at h9
    split at h9 <;> exact h9.1
  have hwok := (wrR_ok b).1
  rw [← hW9] at hwr hwok
  have HEN := Lib.hid hend
  have g1 : (s.size : Int) ≤ 16777216 := by omega
  have g2 : (b.size : Int) + 4 ≤ (s.size : Int) := by omega
  have g3 : (W9.1 : Int) ≤ (b.size : Int) := by omega
  clear hu hw1 b1 r1 hek hb hs hW9 hend hwok
  go_enter Tryz.func13, Tryz.ntmps13
  go_wp2_with fail
  rw [HW1.out]
  refine HU.out.mono ?_
  rintro _ w2 ⟨rfl, b2⟩
  have R2 := Lib.hid (row_stays R1.out b2)
  have B2 := Lib.hid (B1.out.trans (b2.mono B1.out.size))
  clear b2
  go_wp2_with fail
  refine (HNR.out w2).mono ?_
  rintro _ w3 ⟨rfl, h3⟩
  have b3 : Below w2.heap.size w2 w3 := by rw [h3]; exact (Below.refl _ _).alloc (Nat.le_refl _) _
  have d3 : Rd w3 w2.heap.size b 0 0 := by rw [h3]; exact rd_new b (by omega) w2
  obtain ⟨gr, hgr⟩ : ∃ g, g = w2.heap.size := ⟨_, rfl⟩
  have hlt : w.heap.size < gr := by rw [hgr]; exact (Array.getElem?_eq_some_iff.1 R2.out).1
  have HLT := Lib.hid hlt
  rw [← hgr] at d3 ⊢
  have D3 := Lib.hid d3
  have R3 := Lib.hid (row_stays R2.out b3)
  have B3 := Lib.hid (B2.out.trans (b3.mono B2.out.size))
  clear h3 b3 d3 hgr hlt R2 B2 HNR HU
  go_wp2_with fail
  refine (HRD.out gr w3 (HEK.out.below B3.out) D3.out).mono ?_
  rintro _ w4 ⟨A, c, rfl, o4, d4, k4⟩
  unfold trV
  obtain ⟨nn, hnn⟩ : ∃ n, n = (evsS b).1.length := ⟨_, rfl⟩
  rw [← hnn] at o4 ⊢
  have HNN := Lib.hid hnn
  have r4 : w4.heap[w.heap.size]? = some (.cells #[.int .i64 0, .int .i64 0, .int .i64 0, .slice none 0 0] 25 (0, 0)) := (k4.block w.heap.size (Array.getElem?_eq_some_iff.1 R3.out).1 (by have := HLT.out; omega) (by simp)).trans R3.out
  obtain ⟨q1, q2⟩ := row_set (cs := #[.int .i64 (z1 b).1, .int .i64 (z2 b).1, .int .i64 (z3 b).1, .slice A nn c]) r4
  have D5 : Hid (Rd (w4.setRow w.heap.size #[.int .i64 (z1 b).1, .int .i64 (z2 b).1, .int .i64 (z3 b).1, .slice A nn c]) gr b (evsS b).2.1 (evsS b).2.2) := ⟨(q2.block gr d4.1.lt (by have := HLT.out; omega) (by simp)).trans d4.1, d4.2⟩
  have B5 : Hid (Below w.heap.size w (w4.setRow w.heap.size #[.int .i64 (z1 b).1, .int .i64 (z2 b).1, .int .i64 (z3 b).1, .slice A nn c])) := ⟨(q2.os.trans k4.os).trans B3.out.os, (q2.tape.trans k4.tape).trans B3.out.tape, (q2.output.trans k4.output).trans B3.out.output, Nat.le_trans B3.out.size (Nat.le_trans k4.size q2.size), fun i hi => ((q2.block i (Nat.lt_of_lt_of_le hi (Nat.le_trans B3.out.size k4.size)) (by omega) (by simp)).trans (k4.block i (Nat.lt_of_lt_of_le hi B3.out.size) (by have := HLT.out; omega) (by simp))).trans (B3.out.block i hi)⟩
  have O5 : Hid ((w4.setRow w.heap.size #[.int .i64 (z1 b).1, .int .i64 (z2 b).1, .int .i64 (z3 b).1, .slice A nn c]).ownsRow w3.heap.size 50 7 (.slice A nn c) nn (evsC (evsS b).1)) := own_below o4 fun r hr' => by
    obtain ⟨_, cur, hcur⟩ := own_at o4 r hr'
    exact q2.block r (Array.getElem?_eq_some_iff.1 hcur).1 (fun x => own_far o4 r4 (by decide) (by rw [← x]; exact hr'.symm)) (by simp)
  have R4 := Lib.hid r4
  have R5 := Lib.hid q1
  clear o4 d4 k4 r4 q1 q2 hnn D3 R3 B3 HRD
  go_wp2_with (first
    | (refine wpList_store_row rfl _ _ _ rfl w.heap.size #[.int .i64 (z1 b).1, .int .i64 (z2 b).1, .int .i64 (z3 b).1, .slice A nn c] rfl rfl 25 _ R4.out (by kernel_rfl) rfl (by simp [Value.oneCell']) ?_)
    | fail)
  generalize w4.setRow w.heap.size #[.int .i64 (z1 b).1, .int .i64 (z2 b).1, .int .i64 (z3 b).1, .slice A nn c] = w5 at D5 B5 R5 O5 ⊢
  refine (rEnd_any gr b _ _ w5 D5.out).mono ?_
  rintro _ w6 ⟨rfl, d6, k6⟩
  have e1 : (rEnd b (evsS b).2.1 (evsS b).2.2).2.2.1 = W9.1 := congrArg Prod.fst HEN.out
  have e2 : (rEnd b (evsS b).2.1 (evsS b).2.2).2.2.2 = W9.2 := congrArg Prod.snd HEN.out
  rw [e1, e2] at d6
  obtain ⟨re, hre⟩ : ∃ x, x = (rEnd b (evsS b).2.1 (evsS b).2.2).2.1 := ⟨_, rfl⟩
  rw [← hre]
  have R6 := Lib.hid ((k6.block w.heap.size (Array.getElem?_eq_some_iff.1 R5.out).1 (by have := HLT.out; omega) (by simp)).trans R5.out)
  have B6 : Hid (Below w.heap.size w w6) := ⟨k6.os.trans B5.out.os, k6.tape.trans B5.out.tape, k6.output.trans B5.out.output, Nat.le_trans B5.out.size k6.size, fun i hi => (k6.block i (Nat.lt_of_lt_of_le hi B5.out.size) (by have := HLT.out; omega) (by simp)).trans (B5.out.block i hi)⟩
  rw [hwr] at d6
  have HWR := Lib.hid (wrong_no gr b W9.1 w6 d6)
  have O6 : Hid (w6.ownsRow w3.heap.size 50 7 (.slice A nn c) nn (evsC (evsS b).1)) := own_below O5.out fun r hr' => by
    obtain ⟨_, cur, hcur⟩ := own_at O5.out r hr'
    exact k6.block r (Array.getElem?_eq_some_iff.1 hcur).1 (fun x => own_far O5.out D5.out.1 (by decide) (by rw [← x]; exact hr'.symm)) (by simp)
  clear d6 k6 e1 e2 hre D5 B5 R5 R4 hwr HEN
  obtain ⟨q1, q2⟩ := row_set (cs := #[.int .i64 (z1 b).1, .int .i64 (z2 b).1, .int .i64 (z3 b).1, .slice A nn c]) R6.out
  have Q1 := Lib.hid q1
  have BF : Hid (Below w.heap.size w (w6.setRow w.heap.size #[.int .i64 (z1 b).1, .int .i64 (z2 b).1, .int .i64 (z3 b).1, .slice A nn c])) := ⟨q2.os.trans B6.out.os, q2.tape.trans B6.out.tape, q2.output.trans B6.out.output, Nat.le_trans B6.out.size q2.size, fun i hi => (q2.block i (Nat.lt_of_lt_of_le hi B6.out.size) (by omega) (by simp)).trans (B6.out.block i hi)⟩
  have OF : Hid ((w6.setRow w.heap.size #[.int .i64 (z1 b).1, .int .i64 (z2 b).1, .int .i64 (z3 b).1, .slice A nn c]).ownsRow w3.heap.size 50 7 (.slice A nn c) nn (evsC (evsS b).1)) := own_below O6.out fun r hr' => by
    obtain ⟨_, cur, hcur⟩ := own_at O6.out r hr'
    exact q2.block r (Array.getElem?_eq_some_iff.1 hcur).1 (fun x => own_far O6.out R6.out (by decide) (by rw [← x]; exact hr'.symm)) (by simp)
  have x0 := cell_of_row w6 w.heap.size 0 _ _ _ R6.out
  have x1 := cell_of_row w6 w.heap.size 1 _ _ _ R6.out
  have x2 := cell_of_row w6 w.heap.size 2 _ _ _ R6.out
  have x3 := cell_of_row w6 w.heap.size 3 _ _ _ R6.out
  simp only [List.getElem?_toArray, List.getElem?_cons_zero, List.getElem?_cons_succ] at x0 x1 x2 x3
  clear q1 q2
  go_wp2_with fail
  refine HWR.out.mono ?_
  rintro _ w7 ⟨rfl, rfl⟩
  go_wp2_with (first
    | (refine wpList_store_row rfl _ _ _ rfl w.heap.size #[.int .i64 (z1 b).1, .int .i64 (z2 b).1, .int .i64 (z3 b).1, .slice A nn c] rfl rfl 25 _ R6.out (by kernel_rfl) rfl (by simp [Value.oneCell']) ?_)
    | fail)
  refine bodyPost_ret (results_ctt rfl _ _ w.heap.size 25 _ (0, 0) _ rfl Q1.out Tryz.underlying25 rfl (by kernel_rfl)) rfl ?_
  refine ⟨⟨A, c, by rw [HNN.out]; rfl, fun i hi => ?_⟩, BF.out⟩
  have hok : EvOk (nthE (evsS b).1 i) := HOKL.out _ (List.mem_of_getElem? (nthE_of hi))
  obtain ⟨a0, h1, h2, h3⟩ := own_ev OF.out HNN.out.symm (i := i) (by rw [HNN.out]; exact hi) hok
  exact ⟨a0, h1, h2, h3⟩
end Go.Proofs.YteigglhhnemngaaGreatDoor
