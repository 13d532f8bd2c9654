/-
  CONTRACT OF PACKAGE code's May: whether a transaction may be, the n-th one of its thread; the memory that was there stays as it was. Conditions: the table of what each Kind asks lies as its initialiser lays it; as they stand.
-/
import Derived.Test.YtnkdaehmdcpafaaDoorCo
import Derived.Test.YtnkdaehmdcpafaaDoorCk
namespace Go.Proofs.YtnkdaehmdcpafaaDoor
open Go.RowKit
set_option linter.unusedVariables false
set_option maxRecDepth 100000 in
theorem codemay_of (D : Nat) (A : Option Addr) (c : Nat) (tx : List St) (n : Int) (n0 : -9223372036854775808 ≤ n) (n1 : n < 9223372036854775808) (lo hi : Nat) (w : World) (hkd : Kd w) (hk : SKids w lo hi D A tx) (hhi : hi ≤ w.heap.size) (hl : tx.length ≤ 9223372036854775807) (hD : D ≤ 4611686018427387903) :
    Calls Tryd.prog 25 #[.slice A tx.length c, .int .i64 n] w fun e w' => e = .returned (.bool (mayF D tx n)) ∧ Below w.heap.size w w' := by
  by_cases l0 : 0 ≤ n
  · by_cases l6 : n < 6
    · have HS := Lib.hid (sound_of D A c tx n n0 n1 lo hi w hkd hk hhi hl hD)
      have HC := Lib.hid (fun (W' : World) (h' : Below w.heap.size w W') => cost_of D A c tx lo hi W' (hk.below h' hhi) (by have := h'.size; omega) hl)
      cases hs : soundF D tx n with
      | false =>
        rw [hs] at HS
        have HV : Hid (mayF D tx n = false) := by show _ = _; unfold mayF; rw [hs]; simp
        clear HC hs hk hkd
        go_enter Tryd.func25, Tryd.ntmps25
        go_wp2_with fail
        refine HS.out.mono ?_
        rintro e w5 ⟨rfl, b5⟩
        go_wp2_with fail
        go_ret
        exact ⟨by rw [HV.out]; rfl, b5⟩
      | true =>
        rw [hs] at HS
        obtain ⟨u, hu⟩ : ∃ u, u = costL (costF D) tx 0 := ⟨_, rfl⟩
        have HV : Hid (mayF D tx n = decide ((u : Int) ≤ 2000)) := by
          show _ = _
          unfold mayF
          rw [hs, decide_eq_true l0, decide_eq_true l6, ← hu, show decide (u ≤ 2000) = decide ((u : Int) ≤ 2000) from decide_eq_decide.2 (by omega)]
          rfl
        rw [← hu] at HC
        clear hs hk hkd hu
        go_enter Tryd.func25, Tryd.ntmps25
        go_wp2_with fail
        refine HS.out.mono ?_
        rintro e w5 ⟨rfl, b5⟩
        go_wp2_with fail
        refine (HC.out w5 b5).mono ?_
        rintro e w6 ⟨rfl, b6⟩
        go_wp2_with fail
        go_ret
        exact ⟨by rw [HV.out]; rfl, b5.trans (b6.mono b5.size)⟩
    · have HV : Hid (mayF D tx n = false) := by show _ = _; unfold mayF; rw [decide_eq_false l6]; simp
      have l9 : decide (n < 6) = false := decide_eq_false l6
      clear hk hkd l6
      go_enter Tryd.func25, Tryd.ntmps25
      go_wp2_with fail
      go_ret
      exact ⟨by rw [HV.out]; rfl, Below.refl _ _⟩
  · have HV : Hid (mayF D tx n = false) := by show _ = _; unfold mayF; rw [decide_eq_false l0]; simp
    have l9 : decide (0 ≤ n) = false := decide_eq_false l0
    clear hk hkd l0
    go_enter Tryd.func25, Tryd.ntmps25
    go_wp2_with fail
    go_ret
    exact ⟨by rw [HV.out]; rfl, Below.refl _ _⟩
end Go.Proofs.YtnkdaehmdcpafaaDoor
