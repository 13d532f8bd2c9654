/-
  CONTRACT OF THE STATEMENTS' OWN GUARD (layer 6): large. Conditions: as they stand.
-/
import Derived.Test.YtnkdaehmdcpafaaDoorUh
namespace Go.Proofs.YtnkdaehmdcpafaaDoor
open Go.RowKit
set_option linter.unusedVariables false
def bindX (o : Option Nat) (f : Nat → Option Nat) : Option Nat := match o with
  | none => none
  | some m => f m
def nextX (m : Nat) (f : Nat → Option Nat) : Option Nat → Option Nat
  | none => none
  | some j => if 4000 < m + j then none else f (m + j)
theorem bigX_next (d : Nat) (l : List (List St)) (k n : Nat) (h : k < l.length) : bigX d (l.drop k) n = nextX n (bigX d (l.drop (k + 1))) (partB (partF d) 0 l[k]) := by
  rw [List.drop_eq_getElem_cons h, bigX]
  cases partB (partF d) 0 l[k] <;> rfl
theorem bigT_next (d : Nat) (T : List (List (List St))) (k n : Nat) (h : k < T.length) : bigT d (T.drop k) n = if 20 < T[k].length then none else bindX (bigX d T[k] n) (bigT d (T.drop (k + 1))) := by
  rw [List.drop_eq_getElem_cons h, bigT]
  rfl
set_option maxRecDepth 100000 in
set_option maxHeartbeats 4000000 in
theorem large_any6 (d : Nat) (s : Su) (I T : Option Addr) (c c' lo hi : Nat) (w : World) (h : SuAt w lo hi d I T s) (hhi : hi ≤ w.heap.size) :
    Calls Tryd.prog 10 #[.agg #[.int .i64 s.st, .int .i64 s.cl, .int .i64 s.tr, .slice I s.init.length c, .slice T s.thr.length c']] w fun e w' => e = .returned (.bool (largeF d s)) ∧ Below w.heap.size w w' := by
  have b0 := sfive_below w s.st s.cl s.tr I s.init.length c T s.thr.length c'
  have l1 := h.ini.len
  have l2 := h.len
  have HK := Lib.hid (fun W' (h' : Below w.heap.size w W') => h.thr.below h' hhi)
  have HF5 := Lib.hid (fun W' (h' : Below (w.heap.size + 1) (w.alloc (.cells #[.int .i64 s.st, .int .i64 s.cl, .int .i64 s.tr, .slice I s.init.length c, .slice T s.thr.length c'] 25)) W') => (SFive.new w s.st s.cl s.tr I s.init.length c T s.thr.length c').below h' (by omega))
  have HB := Lib.hid b0
  by_cases hc1 : 100 < s.init.length
  · have HV : Hid (largeF d s = true) := by show _ = _; unfold largeF; rw [if_pos (Or.inl hc1)]
    rw [HV.out]
    have i1 : (100 : Int) < (s.init.length : Int) := by omega
    clear h HK HF5 b0 hc1
    go_enter Tryd.func10, Tryd.ntmps10
    go_wp2_with fail
    go_ret
    exact ⟨rfl, HB.out⟩
  by_cases hc2 : 20 < s.thr.length
  · have HV : Hid (largeF d s = true) := by show _ = _; unfold largeF; rw [if_pos (Or.inr hc2)]
    rw [HV.out]
    have i1 : ¬ (100 : Int) < (s.init.length : Int) := by omega
    have i2 : (20 : Int) < (s.thr.length : Int) := by omega
    clear h HK HF5 b0 hc1 hc2
    go_enter Tryd.func10, Tryd.ntmps10
    go_wp2_with fail
    go_ret
    exact ⟨rfl, HB.out⟩
  have HV : Hid (largeF d s = (bigT d s.thr 0).isNone) := by show _ = _; unfold largeF; rw [if_neg (by omega)]
  have HD := Lib.hid (fun k n h => bigT_next d s.thr k n h)
  have HEND : Hid (∀ n, bigT d (s.thr.drop s.thr.length) n = some n) := fun n => by rw [List.drop_length]; rfl
  have HV0 : Hid (bigT d s.thr 0 = bigT d (s.thr.drop 0) 0) := rfl
  obtain ⟨st, cl, tr, ini, thr⟩ := s
  dsimp only at *
  obtain ⟨M, hM⟩ : ∃ M, M = thr.length := ⟨_, rfl⟩
  have HM := Lib.hid hM
  obtain ⟨n, hn⟩ : ∃ n, n = ini.length := ⟨_, rfl⟩
  rw [← hM] at HF5 HB HEND l2 hc2 ⊢
  rw [← hn] at HF5 HB l1 hc1 ⊢
  have i1 : ¬ (100 : Int) < (n : Int) := by omega
  have i2 : ¬ (20 : Int) < (M : Int) := by omega
  obtain ⟨W0, hW0⟩ : ∃ W, W = w.alloc (.cells #[.int .i64 st, .int .i64 cl, .int .i64 tr, .slice I n c, .slice T M c'] 25) := ⟨_, rfl⟩
  have hz0 : W0.heap.size = w.heap.size + 1 := by rw [hW0]; simp
  rw [← hW0] at HF5 HB
  have HW0 := Lib.hid hW0
  have HZ0 := Lib.hid hz0
  clear h hM hn b0 hW0 hz0
  go_enter Tryd.func10, Tryd.ntmps10
  go_wp2_with fail
  rw [← HW0.out]
  go_loopw [3, 4] (fun a i wr => ∃ k m : Nat, k ≤ M ∧ m ≤ 4000 ∧ i = .int .i64 k ∧ a = .int .i64 m ∧ Hid (bigT d thr 0 = bigT d (thr.drop k) m) ∧ Hid (Below (w.heap.size + 1) W0 wr)) (fun _ i _ => M - (intOf i).toNat)
  case atStart => exact ⟨0, 0, by omega, by omega, by go_num, by go_num, HV0, Below.refl _ _⟩
  case round =>
    obtain ⟨k, m, hk, hm, rfl, rfl, HW, HX⟩ := hrel
    have f4 := (HF5.out wr HX.out).c4
    by_cases hlt : k < M
    · have hB0 : Below w.heap.size w wr := HB.out.trans (HX.out.mono (by omega))
      obtain ⟨p, B, c2, rfl, m1, m2, g0, l3, hX⟩ := HK.out w (Below.refl _ _) k (by have := HM.out; omega)
      have g1 := (hB0.cell (p := p.add k) (by rw [ad_block]; omega)).trans g0
      obtain ⟨l, hl⟩ : ∃ l, l = thr[k]'(by have := HM.out; omega) := ⟨_, rfl⟩
      have hD := HD.out k m (by have := HM.out; omega)
      rw [← hl] at g1 l3 hX hD g0
      have HG0 := Lib.hid (And.intro g0 m2)
      have HXX := Lib.hid (fun W' (h' : Below w.heap.size w W') => hX.below h' hhi)
      have HDX := Lib.hid (fun k n h => bigX_next d l k n h)
      have HENDX : Hid (∀ n, bigX d (l.drop l.length) n = some n) := fun n => by rw [List.drop_length]; rfl
      have HW2 := Lib.hid (HW.out.trans hD)
      obtain ⟨J, hJ⟩ : ∃ J, J = l.length := ⟨_, rfl⟩
      have HJ := Lib.hid hJ
      rw [← hJ] at g1 l3 HENDX HW2 HG0
      clear hl hD hX hJ m1 m2 g0 HW
      have k1 : (k : Int) < (M : Int) := by omega
      by_cases hc3 : 20 < J
      · have HF : Hid (bigT d thr 0 = none) := HW2.out.trans (if_pos hc3)
        have i3 : (20 : Int) < (J : Int) := by omega
        have HBB := Lib.hid hB0
        clear hc3 HW2 hB0
        go_wp2_with fail
        go_ret
        exact ⟨by rw [HV.out, HF.out]; rfl, HBB.out⟩
      · have HW3 : Hid (bigT d thr 0 = bindX (bigX d (l.drop 0) m) (bigT d (thr.drop (k + 1)))) := HW2.out.trans (if_neg hc3)
        have i3 : ¬ (20 : Int) < (J : Int) := by omega
        clear hc3 HW2 hB0
        go_wp2_with fail
        go_loopw [3, 5] (fun a i wr => ∃ j m : Nat, j ≤ J ∧ m ≤ 4000 ∧ i = .int .i64 j ∧ a = .int .i64 m ∧ Hid (bigT d thr 0 = bindX (bigX d (l.drop j) m) (bigT d (thr.drop (k + 1)))) ∧ Hid (Below (w.heap.size + 1) W0 wr)) (fun _ i _ => J - (intOf i).toNat)
        case atStart => exact ⟨0, m, by omega, hm, by go_num, by go_num, HW3, HX⟩
        case round =>
          obtain ⟨j, mm, hj, hmm, rfl, rfl, HW, HX⟩ := hrel
          have f4 := (HF5.out wr HX.out).c4
          have hB0 : Below w.heap.size w wr := HB.out.trans (HX.out.mono (by omega))
          have g1 := (hB0.cell (p := p.add k) (by rw [ad_block]; have := HG0.out.2; omega)).trans HG0.out.1
          by_cases hlj : j < J
          · obtain ⟨p2, B2, c3, rfl, m1, m2, g2, l4, hS⟩ := HXX.out wr hB0 j (by have := HJ.out; omega)
            obtain ⟨x, hx⟩ : ∃ x, x = l[j]'(by have := HJ.out; omega) := ⟨_, rfl⟩
            have hD := HDX.out j mm (by have := HJ.out; omega)
            rw [← hx] at g2 l4 hS hD
            have HP := Lib.hid (parts_any d B2 c3 x lo hi 0 wr hS (by have := hB0.size; omega) l4 (by omega))
            have b3 : (partB (partF d) 0 x).getD 0 ≤ 3000 := get_le fun m h => partB_le h
            unfold sideV at HP
            obtain ⟨o, ho⟩ : ∃ o, o = partB (partF d) 0 x := ⟨_, rfl⟩
            rw [← ho] at HP hD b3
            rw [hD] at HW
            obtain ⟨q, hq⟩ : ∃ q, q = x.length := ⟨_, rfl⟩
            rw [← hq] at HP g2
            clear hx hD hS ho hq m1 m2 l4 hB0
            have k2 : (j : Int) < (J : Int) := by omega
            cases o with
            | none =>
              have HF : Hid (bigT d thr 0 = none) := HW.out
              clear HW
              go_wp2_with fail
              refine HP.out.mono ?_
              rintro _ w5 ⟨rfl, b5⟩
              have B5 : Hid (Below w.heap.size w w5) := HB.out.trans ((HX.out.trans (b5.mono (by have := HX.out.size; have := HZ0.out; omega))).mono (by omega))
              clear b5 f4 g1 g2
              go_wp2_with fail
              go_ret
              exact ⟨by rw [HV.out, HF.out]; rfl, B5.out⟩
            | some y =>
              have b3' : y ≤ 3000 := b3
              have HW' : Hid (bigT d thr 0 = bindX (nextX mm (bigX d (l.drop (j + 1))) (some y)) (bigT d (thr.drop (k + 1)))) := HW
              have HP' : Hid (Calls Tryd.prog 27 #[.slice B2 q c3, .int .i64 ((0 : Nat) : Int)] wr fun z w' => z = .returned (.tuple #[.int .i64 (y : Nat), .bool false]) ∧ Below wr.heap.size wr w') := HP
              clear b3 HW HP
              by_cases hbig : 4000 < mm + y
              · have HF : Hid (bigT d thr 0 = none) := by
                  show _ = _
                  rw [HW'.out, nextX, if_pos hbig]
                  rfl
                have i4 : (4000 : Int) < (mm : Int) + (y : Int) := by omega
                clear HW' hbig
                go_wp2_with fail
                refine HP'.out.mono ?_
                rintro _ w5 ⟨rfl, b5⟩
                have B5 : Hid (Below w.heap.size w w5) := HB.out.trans ((HX.out.trans (b5.mono (by have := HX.out.size; have := HZ0.out; omega))).mono (by omega))
                clear b5 f4 g1 g2
                go_wp2_with fail
                go_ret
                exact ⟨by rw [HV.out, HF.out]; rfl, B5.out⟩
              · have HF : Hid (bigT d thr 0 = bindX (bigX d (l.drop (j + 1)) (mm + y)) (bigT d (thr.drop (k + 1)))) := by
                  show _ = _
                  rw [HW'.out, nextX, if_neg hbig]
                have i4 : ¬ (4000 : Int) < (mm : Int) + (y : Int) := by omega
                have HMM : Hid (mm + y ≤ 4000) := by show _ ≤ _; omega
                clear HW' hbig
                go_wp2_with fail
                refine HP'.out.mono ?_
                rintro _ w5 ⟨rfl, b5⟩
                have B5 : Hid (Below (w.heap.size + 1) W0 w5) := HX.out.trans (b5.mono (by have := HX.out.size; have := HZ0.out; omega))
                clear b5 f4 g1 g2
                go_wp2_with fail
                go_roundw
                case rel => exact ⟨j + 1, mm + y, by omega, HMM.out, by go_num, by go_num, HF, B5⟩
                case measure => simp [intOf]; omega
          · have HF : Hid (bigT d thr 0 = bigT d (thr.drop (k + 1)) mm) := by
              show _ = _
              rw [HW.out, show j = J by omega, HENDX.out]
              rfl
            clear HW hB0
            go_wp2_with fail
            go_roundw
            case rel => exact ⟨k + 1, mm, by omega, hmm, by go_num, by go_num, HF, HX⟩
            case measure => simp [intOf]; omega
    · have HF : Hid (bigT d thr 0 = some m) := by show _ = _; rw [HW.out, show k = M by omega]; exact HEND.out m
      have HBB : Hid (Below w.heap.size w wr) := HB.out.trans (HX.out.mono (by omega))
      go_wp2_with fail
      go_ret
      exact ⟨by rw [HV.out, HF.out]; rfl, HBB.out⟩
end Go.Proofs.YtnkdaehmdcpafaaDoor
