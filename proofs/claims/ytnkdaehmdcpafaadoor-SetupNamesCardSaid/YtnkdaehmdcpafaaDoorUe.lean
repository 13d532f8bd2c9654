/-
  CONTRACTS OF LAYER 6: Check and Cost of package setup, at any setup that lies in memory; the memory that was there stays as it was. Conditions: code's table as it is laid (Kd), and those that stand.
-/
import Derived.Test.YtnkdaehmdcpafaaDoorUm
import Derived.Test.YtnkdaehmdcpafaaDoorZb
import Derived.Test.YtnkdaehmdcpafaaDoorCq
namespace Go.Proofs.YtnkdaehmdcpafaaDoor
open Go.RowKit
set_option linter.unusedVariables false
theorem f_of {a b : Bool} (h : a = b) : Ending.returned (.bool a) = .returned (.bool b) := by rw [h]
set_option maxRecDepth 100000 in
theorem threads_any (d : Nat) (T : List (List (List St))) (A : Option Addr) (c lo hi : Nat) (w : World) (hkd : Kd w) (hk : Thr w lo hi d A T) (hhi : hi ≤ w.heap.size) (hl : T.length ≤ 9223372036854775807) (hd : d ≤ 4611686018427387903) :
    Calls Tryd.prog 34 #[.slice A T.length c] w fun e w' => e = .returned (.bool (decide (T.length ≤ 6) && thrF d T)) ∧ Below w.heap.size w w' := by
  by_cases h6 : 6 < T.length
  · have hv : (decide (T.length ≤ 6) && thrF d T) = false := by rw [decide_eq_false (by omega)]; rfl
    rw [hv]
    have i0 : (6 : Int) < (T.length : Int) := by omega
    clear hv hk
    go_enter Tryd.func34, Tryd.ntmps34
    go_wp2_with fail
    go_ret
    exact ⟨rfl, Below.refl _ _⟩
  · have hv : (decide (T.length ≤ 6) && thrF d T) = thrF d T := by rw [decide_eq_true (by omega)]; rfl
    rw [hv]
    have HK := Lib.hid hk
    have HKD := Lib.hid hkd
    have HL := Lib.hid (fun k h => thrF_drop d T k h)
    have HEND : Hid (thrF d (T.drop T.length) = true) := by show _ = _; rw [List.drop_length]; rfl
    obtain ⟨m, hm⟩ : ∃ m, m = T.length := ⟨_, rfl⟩
    have HM := Lib.hid hm
    rw [← hm] at hl h6 HEND ⊢
    clear hv hk hm hkd
    go_enter Tryd.func34, Tryd.ntmps34
    go_wp2_with fail
    go_loopw [12] (fun i wr => ∃ k : Nat, k ≤ m ∧ i = .int .i64 k ∧ Hid (thrF d T = thrF d (T.drop k)) ∧ Hid (Below w.heap.size w wr)) (fun i _ => m - (intOf i).toNat)
    case atStart => exact ⟨0, by omega, by go_num, rfl, Below.refl _ _⟩
    case round =>
      obtain ⟨k, hk, rfl, HV, HB⟩ := hrel
      by_cases hlt : k < m
      · obtain ⟨p, B, c2, rfl, m1, m2, f0, l1, hX⟩ := HK.out k (by have := HM.out; omega)
        have f1 := (HB.out.cell (p := p.add k) (by rw [ad_block]; omega)).trans f0
        clear f0
        obtain ⟨l, hl'⟩ : ∃ l, l = T[k]'(by have := HM.out; omega) := ⟨_, rfl⟩
        have hV2 := HL.out k (by have := HM.out; omega)
        rw [← hl'] at f1 l1 hX hV2
        have HV2 : Hid (thrF d T = (decide (l.length ≤ 6) && (txsF d l 0 && thrF d (T.drop (k + 1))))) := HV.out.trans hV2
        have HX := Lib.hid hX
        have HTL := Lib.hid (fun j h => txsF_drop d l j h)
        obtain ⟨n, hn⟩ : ∃ n, n = l.length := ⟨_, rfl⟩
        have HN := Lib.hid hn
        rw [← hn] at f1 l1
        clear hl' hV2 hX hn HV m1 m2
        by_cases h66 : 6 < n
        · have HF : Hid (thrF d T = false) := by
            show _ = _
            rw [HV2.out, decide_eq_false (by have := HN.out; omega)]
            rfl
          have i0 : (6 : Int) < (n : Int) := by omega
          go_wp2_with fail
          go_ret
          exact ⟨by rw [HF.out]; rfl, HB.out⟩
        · have HV3 : Hid (thrF d T = (txsF d (l.drop 0) 0 && thrF d (T.drop (k + 1)))) := by
            show _ = _
            rw [HV2.out, decide_eq_true (by have := HN.out; omega)]
            rfl
          clear HV2
          go_wp2_with fail
          go_loopw [21] (fun i wr => ∃ j : Nat, j ≤ n ∧ i = .int .i64 j ∧ Hid (thrF d T = (txsF d (l.drop j) j && thrF d (T.drop (k + 1)))) ∧ Hid (Below w.heap.size w wr)) (fun i _ => n - (intOf i).toNat)
          case atStart => exact ⟨0, by omega, by go_num, HV3, HB⟩
          case round =>
            obtain ⟨j, hj, rfl, HW, HBX⟩ := hrel
            by_cases hjl : j < n
            · obtain ⟨p2, B2, c3, rfl, m1, m2, f2, l2, hS⟩ := HX.out.below HBX.out hhi j (by have := HN.out; omega)
              obtain ⟨x, hx⟩ : ∃ x, x = l[j]'(by have := HN.out; omega) := ⟨_, rfl⟩
              have hW2 := HTL.out j (by have := HN.out; omega)
              rw [← hx] at f2 l2 hS hW2
              have HMAY := Lib.hid (codemay_of d B2 c3 x (j : Int) (by omega) (by omega) lo hi wr (HKD.out.below HBX.out (Nat.le_refl _)) hS (by have := HBX.out.size; omega) l2 hd)
              obtain ⟨b, hb⟩ : ∃ b, b = mayF d x (j : Int) := ⟨_, rfl⟩
              rw [← hb] at HMAY hW2
              rw [hW2] at HW
              obtain ⟨q, hq⟩ : ∃ q, q = x.length := ⟨_, rfl⟩
              rw [← hq] at HMAY f2
              clear hx hW2 hS hb m1 m2 hq
              go_wp2_with fail
              refine HMAY.out.mono ?_
              rintro _ w5 ⟨rfl, b5⟩
              have H5 : Hid (Below w.heap.size w w5) := HBX.out.trans (b5.mono HBX.out.size)
              clear b5
              cases b with
              | false =>
                have HF : Hid (thrF d T = false) := by show _ = _; rw [HW.out, Bool.false_and, Bool.false_and]
                go_wp2_with fail
                go_ret
                exact ⟨by rw [HF.out]; rfl, H5.out⟩
              | true =>
                have HW3 : Hid (thrF d T = (txsF d (l.drop (j + 1)) (j + 1) && thrF d (T.drop (k + 1)))) := by show _ = _; rw [HW.out, Bool.true_and]
                go_wp2_with fail
                go_roundw
                case rel => exact ⟨j + 1, by omega, by go_num, HW3, H5⟩
                case measure => simp [intOf]; omega
            · have HW3 : Hid (thrF d T = thrF d (T.drop (k + 1))) := by show _ = _; rw [HW.out, List.drop_eq_nil_of_le (by have := HN.out; omega)]; rfl
              go_wp2_with fail
              go_roundw
              case rel => exact ⟨k + 1, by omega, by go_num, HW3, HBX⟩
              case measure => simp [intOf]; omega
      · have HF : Hid (thrF d T = true) := by show _ = _; rw [HV.out, show k = m by omega]; exact HEND.out
        go_wp2_with fail
        go_ret
        exact ⟨by rw [HF.out]; rfl, HB.out⟩
end Go.Proofs.YtnkdaehmdcpafaaDoor
