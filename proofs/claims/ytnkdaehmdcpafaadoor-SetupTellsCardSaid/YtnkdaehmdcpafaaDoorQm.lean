/-
  CONTRACT OF seesawref05's May (the document's own answer of layer 5): whether a transaction may be, the n-th one of its thread; the memory that was there stays as it was. Conditions: as they stand.
-/
import Derived.Test.YtnkdaehmdcpafaaDoorQc
import Derived.Test.YtnkdaehmdcpafaaDoorQn
import Derived.Test.YtnkdaehmdcpafaaDoorQd
import Derived.Test.YtnkdaehmdcpafaaDoorQs
namespace Go.Proofs.YtnkdaehmdcpafaaDoor
open Go.RowKit
set_option linter.unusedVariables false
def rmayF (d : Nat) (tx : List St) (n : Int) : Bool :=
  decide (0 ≤ n) && (decide (n ≤ 5) && (decide ((tx.map (numS d)).sum ≤ 40) && (decide ((tx.map (nodS d)).sum ≤ 300) && (decide (maxOf (depS d) tx + 1 ≤ 6) && (decide (costL (costF d) tx 0 ≤ 2000) && tx.all (shpS d n))))))
set_option maxRecDepth 100000 in
set_option maxHeartbeats 4000000 in
theorem rtmay_of (d : Nat) (A : Option Addr) (c : Nat) (tx : List St) (n : Int) (n0 : -9223372036854775808 ≤ n) (n1 : n < 9223372036854775808) (lo hi : Nat) (w : World) (hk : SKids w lo hi d A tx) (hhi : hi ≤ w.heap.size) (hl : tx.length ≤ 9223372036854775807) (hd : d ≤ 100000) (hm1 : (tx.map (numS d)).sum ≤ 100000) (hm2 : (tx.map (nodS d)).sum ≤ 100000) :
    Calls Tryd.prog 35 #[.slice A tx.length c, .int .i64 n] w fun e w' => e = .returned (.bool (rmayF d tx n)) ∧ Below w.heap.size w w' := by
  have HC := Lib.hid (rcnt_of d A c tx lo hi w hk hhi hl hm1 hm2)
  have HD := Lib.hid (fun W' (h' : Below w.heap.size w W') => rdepth_of d A c tx lo hi W' (hk.below h' hhi) (by have := h'.size; omega) hl hd)
  have HK := Lib.hid (fun W' (h' : Below w.heap.size w W') => rcost_of d A c tx lo hi W' (hk.below h' hhi) (by have := h'.size; omega) hl)
  have HS := Lib.hid (fun W' (h' : Below w.heap.size w W') => rshaped_of d n n0 n1 A c tx lo hi W' (hk.below h' hhi) (by have := h'.size; omega) hl)
  have HV : Hid (rmayF d tx n = (decide (0 ≤ n) && (decide (n ≤ 5) && (decide ((tx.map (numS d)).sum ≤ 40) && (decide ((tx.map (nodS d)).sum ≤ 300) && (decide (maxOf (depS d) tx + 1 ≤ 6) && (decide (costL (costF d) tx 0 ≤ 2000) && tx.all (shpS d n)))))))) := rfl
  have hmx := maxOf_le (depS d) d tx fun s _ => depS_le d s
  obtain ⟨x1, h1⟩ : ∃ x, x = (tx.map (numS d)).sum := ⟨_, rfl⟩
  obtain ⟨x2, h2⟩ : ∃ x, x = (tx.map (nodS d)).sum := ⟨_, rfl⟩
  obtain ⟨x3, h3⟩ : ∃ x, x = maxOf (depS d) tx := ⟨_, rfl⟩
  obtain ⟨x4, h4⟩ : ∃ x, x = costL (costF d) tx 0 := ⟨_, rfl⟩
  obtain ⟨vs, h5⟩ : ∃ x, x = tx.all (shpS d n) := ⟨_, rfl⟩
  rw [← h1, ← h2] at HC
  rw [← h3] at HD hmx
  rw [← h4] at HK
  rw [← h5] at HS
  rw [← h1, ← h2, ← h3, ← h4, ← h5] at HV
  rw [← h1] at hm1
  rw [← h2] at hm2
  clear h1 h2 h3 h4 h5 hk
  obtain ⟨L, hL⟩ : ∃ L, L = tx.length := ⟨_, rfl⟩
  rw [← hL] at HC HD HK HS ⊢
  clear hL hl
  go_enter Tryd.func35, Tryd.ntmps35
  go_wp2_with fail
  refine HC.out.mono ?_
  rintro _ w5 ⟨rfl, b5⟩
  by_cases c1 : 0 ≤ n
  case neg =>
    have HF : Hid (rmayF d tx n = false) := HV.out.trans (by rw [decide_eq_false c1, Bool.false_and])
    go_wp2_with fail
    go_ret
    exact ⟨by rw [HF.out]; rfl, b5⟩
  by_cases c2 : n ≤ 5
  case neg =>
    have HF : Hid (rmayF d tx n = false) := HV.out.trans (by rw [decide_eq_false c2, Bool.false_and, Bool.and_false])
    go_wp2_with fail
    go_ret
    exact ⟨by rw [HF.out]; rfl, b5⟩
  by_cases c3 : x1 ≤ 40
  case neg =>
    have i3 : ¬ ((x1 : Int) ≤ 40) := by omega
    have HF : Hid (rmayF d tx n = false) := HV.out.trans (by rw [decide_eq_false c3]; simp)
    go_wp2_with fail
    go_ret
    exact ⟨by rw [HF.out]; rfl, b5⟩
  have i3 : (x1 : Int) ≤ 40 := by omega
  by_cases c4 : x2 ≤ 300
  case neg =>
    have i4 : ¬ ((x2 : Int) ≤ 300) := by omega
    have HF : Hid (rmayF d tx n = false) := HV.out.trans (by rw [decide_eq_false c4]; simp)
    go_wp2_with fail
    go_ret
    exact ⟨by rw [HF.out]; rfl, b5⟩
  have i4 : (x2 : Int) ≤ 300 := by omega
  go_wp2_with fail
  refine (HD.out w5 b5).mono ?_
  rintro _ w6 ⟨rfl, b6⟩
  have b6 := b5.trans (b6.mono b5.size)
  by_cases c5 : x3 + 1 ≤ 6
  case neg =>
    have i5 : ¬ ((x3 : Int) + 1 ≤ 6) := by omega
    have HF : Hid (rmayF d tx n = false) := HV.out.trans (by rw [decide_eq_false c5]; simp)
    clear c5
    go_wp2_with fail
    go_ret
    exact ⟨by rw [HF.out]; rfl, b6⟩
  have i5 : (x3 : Int) + 1 ≤ 6 := by omega
  go_wp2_with fail
  refine (HK.out w6 b6).mono ?_
  rintro _ w7 ⟨rfl, b7⟩
  have b7 := b6.trans (b7.mono b6.size)
  by_cases c6 : x4 ≤ 2000
  case neg =>
    have i6 : ¬ ((x4 : Int) ≤ 2000) := by omega
    have HF : Hid (rmayF d tx n = false) := HV.out.trans (by rw [decide_eq_false c6]; simp)
    go_wp2_with fail
    go_ret
    exact ⟨by rw [HF.out]; rfl, b7⟩
  have i6 : (x4 : Int) ≤ 2000 := by omega
  have HF : Hid (rmayF d tx n = vs) := HV.out.trans (by rw [decide_eq_true c1, decide_eq_true c2, decide_eq_true c3, decide_eq_true c4, decide_eq_true c5, decide_eq_true c6]; simp)
  go_wp2_with fail
  refine (HS.out w7 b7).mono ?_
  rintro _ w8 ⟨rfl, b8⟩
  go_wp2_with fail
  go_ret
  exact ⟨by rw [HF.out]; rfl, b7.trans (b8.mono b7.size)⟩
end Go.Proofs.YtnkdaehmdcpafaaDoor
