/-
  WORDS FOR LAYER 11's LAWS: whether two lists of values are the same; a number modulo how many there are. Conditions: as they stand.
-/
import Derived.Test.YtokhcogmoleocaaHi
import Derived.Deep.QuietTactic
import Derived.BigQuiet
namespace Go.Proofs.Ytokhcogmoleocaa
set_option maxRecDepth 100000
open Go.RowKit Go.Deep
set_option linter.unusedVariables false
set_option maxRecDepth 100000 in
theorem values_same11 (L M : List Int) (A B : Option Addr) (c c' hi hi' : Nat) (w : World) (hA : Ints w hi A L) (hB : Ints w hi' B M) (hhi : hi ≤ w.heap.size) (hhi' : hi' ≤ w.heap.size) :
    Calls Try.prog 34 #[.slice A L.length c, .slice B M.length c'] w fun e w' => e = .returned (.bool (decide (L = M))) ∧ Below w.heap.size w w' := by
  have l1 := hA.len
  have l2 := hB.len
  by_cases hl : L.length = M.length
  · have hC := Lib.hid (fun k (h1 : k < L.length) (h2 : k < M.length) => And.intro (hA.cell k h1) (hB.cell k h2))
    have HT := Lib.hid (fun k (hk : k < L.length) => ints_drop (a := L) (b := M) (k := k) hl hk)
    obtain ⟨x, hx⟩ : ∃ x, x = L.length := ⟨_, rfl⟩
    obtain ⟨y, hy⟩ : ∃ y, y = M.length := ⟨_, rfl⟩
    have HX := Lib.hid hx
    have HY := Lib.hid hy
    rw [← hx, ← hy]
    rw [← hx] at l1 hl
    rw [← hy] at hl l2
    have i0 : ((x : Int) != (y : Int)) = false := bne_eq_false_iff_eq.2 (by omega)
    clear hx hy hA hB
    go_enter Try.func34, Try.ntmps34
    go_wp2_with fail
    go_loopw [5] (fun i wr => ∃ k : Nat, k ≤ x ∧ i = .int .i64 k ∧ Hid (L.take k = M.take k) ∧ Hid (Below w.heap.size w wr)) (fun i _ => x - (intOf i).toNat)
    case atStart => exact ⟨0, by omega, by go_num, rfl, Below.refl _ _⟩
    case round =>
      obtain ⟨k, hk, rfl, HK, hO⟩ := hrel
      by_cases hlt : k < x
      · obtain ⟨⟨p, rfl, m1, d1⟩, ⟨q, rfl, m2, d2⟩⟩ := hC.out k (by have := HX.out; omega) (by have := HY.out; omega)
        have f1 := (hO.out.cell (p := p.add k) (by rw [ad_block]; omega)).trans d1
        have f2 := (hO.out.cell (p := q.add k) (by rw [ad_block]; omega)).trans d2
        have hT := (HT.out k (by have := HX.out; omega) HK.out)
        obtain ⟨u, hu⟩ : ∃ u, u = L[k]'(by have := HX.out; omega) := ⟨_, rfl⟩
        obtain ⟨v, hv⟩ : ∃ v, v = M[k]'(by have := HY.out; omega) := ⟨_, rfl⟩
        rw [← hu] at f1
        rw [← hv] at f2
        rw [← hu, ← hv] at hT
        have HT2 := Lib.hid hT
        clear d1 d2 hu hv hC hT m1 m2
        by_cases huv : u = v
        · have i2 : (u != v) = false := bne_eq_false_iff_eq.2 huv
          have HN : Hid (L.take (k + 1) = M.take (k + 1)) := HT2.out.2 huv
          clear huv
          go_wp2_with fail
          go_quiet (fail)
          go_wp2_with fail
          go_roundw
          case rel => exact ⟨k + 1, by omega, by go_num, HN, hO.out.trans ((drewN_below2 wr _).mono hO.out.size)⟩
          case measure => simp [intOf]; omega
        · have i2 : (u != v) = true := bne_iff_ne.2 huv
          have HN : Hid (L ≠ M) := fun h => huv (HT2.out.1 (by rw [h]))
          clear huv
          go_wp2_with fail
          go_quiet (fail)
          go_wp2_with fail
          go_ret
          exact ⟨by rw [decide_eq_false HN.out]; rfl, hO.out.trans ((drewN_below2 wr _).mono hO.out.size)⟩
      · have HN : Hid (L = M) := by
          have h1 := HK.out
          have h2 := HX.out
          have h3 := HY.out
          rw [List.take_of_length_le (by omega), List.take_of_length_le (by omega)] at h1
          exact h1
        clear HK HT hC
        go_wp2_with fail
        go_ret
        exact ⟨by rw [decide_eq_true HN.out]; rfl, hO.out⟩
  · have HN : Hid (decide (L = M) = false) := decide_eq_false (fun h => hl (by rw [h]))
    obtain ⟨x, hx⟩ : ∃ x, x = L.length := ⟨_, rfl⟩
    obtain ⟨y, hy⟩ : ∃ y, y = M.length := ⟨_, rfl⟩
    rw [← hx, ← hy]
    rw [← hx] at l1 hl
    rw [← hy] at hl l2
    have i0 : ((x : Int) != (y : Int)) = true := bne_iff_ne.2 (by omega)
    clear hx hy hA hB
    go_enter Try.func34, Try.ntmps34
    go_wp2_with fail
    go_ret
    exact ⟨by rw [HN.out]; rfl, Below.refl _ _⟩
theorem ints_up11 {w : World} {hi hi' : Nat} {A : Option Addr} {xs : List Int} (h : Ints w hi A xs) (hh : hi ≤ hi') : Ints w hi' A xs := ⟨h.len, fun k hk => by obtain ⟨a, e, b, c⟩ := h.cell k hk; exact ⟨a, e, by omega, c⟩⟩
/-- A number without sign, modulo another one. -/
def modH (y n : Int) : Int := (y % 18446744073709551616) % n
theorem modH_wrap (y n : Int) (h1 : 1 ≤ n) (h2 : n < 9223372036854775808) : wrap64 ((IntKind.u64.wrap y).tmod (IntKind.u64.wrap n)) = modH y n ∧ 0 ≤ modH y n ∧ modH y n < n := by
  have e1 : IntKind.u64.wrap n = n := IntWalk.u64_in n ⟨by omega, by omega⟩
  have e2 : IntKind.u64.wrap y = y % 18446744073709551616 := by simp [IntKind.wrap, IntKind.bits, IntKind.signed]
  have h3 : 0 ≤ modH y n := Int.emod_nonneg _ (by omega)
  have h4 : modH y n < n := Int.emod_lt_of_pos _ (by omega)
  refine ⟨?_, h3, h4⟩
  rw [e1, e2, Int.tmod_eq_emod_of_nonneg (Int.emod_nonneg _ (by omega))]
  show wrap64 (modH y n) = modH y n
  unfold wrap64
  omega
theorem modH_nz (n : Int) (h1 : 1 ≤ n) (h2 : n < 9223372036854775808) : IntKind.u64.wrap n ≠ 0 := by
  rw [IntWalk.u64_in n ⟨by omega, by omega⟩]
  omega
/-- What New's heap tells. -/
theorem new_st {L : List Int} {st limit : Int} : newF L st limit 0 = st := by simp [newF, lockF]
theorem new_clock {L : List Int} {st limit : Int} (h : st ≤ 32) : newF L st limit 65 = 0 := by
  unfold newF lockF
  rw [if_pos (by decide), if_neg (by decide), if_neg (by decide), if_neg (by omega)]
theorem new_limit {L : List Int} {st limit : Int} : newF L st limit 66 = limit := by simp [newF, lockF]
theorem new_vars {L : List Int} {st limit : Int} : newF L st limit 67 = L.length := by simp [newF]
theorem new_value {L : List Int} {st limit : Int} {k : Nat} (h : k < L.length) : newF L st limit (68 + k) = L[k] := by
  unfold newF
  rw [if_neg (by omega), if_neg (by omega), if_pos ⟨by omega, by omega⟩, show 68 + k - 68 = k by omega, List.getD_eq_getElem?_getD, List.getElem?_eq_getElem h]
  rfl
theorem new_owner {L : List Int} {st limit : Int} {s : Nat} (h : (s : Int) < st) (h2 : st ≤ 32) : newF L st limit (1 + s) = -1 := by
  unfold newF lockF
  rw [if_pos (by omega), if_neg (by omega), if_neg (by omega), if_pos (by omega)]
theorem new_version {L : List Int} {st limit : Int} {s : Nat} (h : s < 32) (h2 : st ≤ 32) : newF L st limit (33 + s) = 0 := by
  unfold newF lockF
  rw [if_pos (by omega), if_neg (by omega), if_neg (by omega), if_neg (by omega)]
theorem new_values {L : List Int} {st limit : Int} : valuesL (newF L st limit) = L := by
  unfold valuesL
  rw [new_vars]
  refine List.ext_getElem (by simp) fun k h1 h2 => ?_
  rw [List.getElem_map, List.getElem_range, new_value h2]
end Go.Proofs.Ytokhcogmoleocaa
