/-
  CONTRACTS OF seesawref12 (the document's own event): the table that it reads; Name, Kind, Stripe: by the same plain functions as package event's. Conditions: as they stand.
-/
import Derived.Test.YtfbnigikofidoaaDoorWs
namespace Go.Proofs.YtfbnigikofidoaaDoor
set_option maxRecDepth 100000
open Go.RowKit
set_option linter.unusedVariables false
/-- The document's own table of names. -/
structure Er (w : World) : Prop where
  nm : ∀ k, k < 14 → w.cell? ⟨1, k, none⟩ = some (.string (bsW (nmL k)))
theorem Er.below {w w' : World} (h : Er w) (hb : Below w.heap.size w w') : Er w' := ⟨fun k hk => (hb.cell (there_blockW (h.nm k hk))).trans (h.nm k hk)⟩
theorem rname_any (k : Nat) (hk : k < 256) (w : World) (he : Er w) :
    Calls Tryd.prog 18 #[.int .u8 k] w fun e w' => e = .returned (nmV k) ∧ w = w' := by
  have i1 : (0 : Int) ≤ (k : Int) := by omega
  have i2 : (k : Int) ≤ 255 := by omega
  by_cases h : k < 14
  · have c1 := he.nm k h
    have i3 : ¬ (13 : Int) < (k : Int) := by omega
    have i4 : (k : Int) < 14 := by omega
    obtain ⟨v, hv⟩ : ∃ v, v = nmV k := ⟨_, rfl⟩
    rw [← hv]
    unfold nmV at hv
    rw [← hv] at c1
    clear hv he h hk
    go_enter Tryd.func18, Tryd.ntmps18
    go_wp2
    go_ret
    exact ⟨rfl, rfl⟩
  · have i3 : (13 : Int) < (k : Int) := by omega
    rw [show nmV k = .string ⟨#[]⟩ by unfold nmV; rw [nmL_none (by omega)]; rfl]
    clear he h hk
    go_enter Tryd.func18, Tryd.ntmps18
    go_wp2
    go_ret
    exact ⟨rfl, rfl⟩
theorem rkind_any (s : ByteArray) (w : World) (he : Er w) :
    Calls Tryd.prog 21 #[.string s] w fun r w' => r = .returned (.tuple #[.int .u8 (kindF s.data.toList), .bool (kindF s.data.toList != 0)]) ∧ w = w' := by
  obtain ⟨K, hK⟩ : ∃ K, K = kindF s.data.toList := ⟨_, rfl⟩
  obtain ⟨B, hB⟩ : ∃ B, B = (K != 0) := ⟨_, rfl⟩
  rw [← hK, ← hB]
  have HK := Lib.hid hK
  have HB := Lib.hid hB
  clear hK hB
  go_enter Tryd.func21, Tryd.ntmps21
  go_wp2
  go_loop [4] (fun t => ∃ k : Nat, 1 ≤ k ∧ k ≤ 14 ∧ (∀ j, 1 ≤ j → j < k → nmL j ≠ s.data.toList) ∧ t = .int .i64 k) (fun t => 14 - (intOf t).toNat)
  case atStart => exact ⟨1, by omega, by omega, fun j h1 h2 => by omega, rfl⟩
  case round =>
    obtain ⟨k, h1, h2, hn, rfl⟩ := hrel
    have HN := Lib.hid hn
    clear hn
    by_cases hlt : k ≤ 13
    · have c1 := he.nm k (by omega)
      have i1 : (k : Int) < 14 := by omega
      have i2 : (1 : Int) ≤ (k : Int) := by omega
      have i3 : IntKind.u8.wrap (k : Int) = k := by simp [IntKind.wrap, IntKind.bits, IntKind.signed]; omega
      by_cases hs : nmL k = s.data.toList
      · have hq : bsW (nmL k) = s := by rw [hs, bsW_of]
        rw [hq] at c1
        have hk : kindF s.data.toList = k := by rw [← hs]; exact kindF_nm h1 hlt
        have HQ := Lib.hid (HK.out.trans hk)
        clear he hs hq hk
        go_wp2
        go_ret2
        exact ⟨ret_kind HQ.out (by rw [HB.out, HQ.out]; simp; omega), rfl⟩
      · obtain ⟨b, hb⟩ : ∃ b, b = bsW (nmL k) := ⟨_, rfl⟩
        rw [← hb] at c1
        have hq : (b.toList == s.toList) = false := by rw [hb, testW]; simpa using hs
        have HN2 : Hid (∀ j, 1 ≤ j → j < k + 1 → nmL j ≠ s.data.toList) := fun j g1 g2 => by
          by_cases g : j < k
          · exact HN.out j g1 g
          · obtain rfl : j = k := by omega
            exact hs
        clear he hs hb i3
        go_wp2
        go_round
        case rel => exact ⟨k + 1, by omega, by omega, HN2.out, by go_num⟩
        case measure => simp [intOf]; omega
    · obtain rfl : k = 14 := by omega
      have hk : kindF s.data.toList = 0 := kindF_none fun j g1 g2 => HN.out j g1 (by omega)
      have HQ := Lib.hid (HK.out.trans hk)
      clear he hk
      go_wp2
      go_ret2
      exact ⟨ret_kind HQ.out (by rw [HB.out, HQ.out]; rfl), rfl⟩
end Go.Proofs.YtfbnigikofidoaaDoor
