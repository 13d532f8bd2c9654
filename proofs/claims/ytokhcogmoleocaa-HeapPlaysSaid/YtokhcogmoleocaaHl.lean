/-
  WHAT A STEP CHANGES of a heap's numbers (plain). Conditions: as they stand.
-/
import Derived.Test.YtokhcogmoleocaaHk
namespace Go.Proofs.Ytokhcogmoleocaa
set_option maxRecDepth 100000
open Go.RowKit Go.Deep
set_option linter.unusedVariables false
theorem own_ok {c : Nat → Int} {s who : Int} : ownE c s who = 0 ↔ isS c s = true ∧ 0 ≤ who ∧ who < 6 ∧ c (1 + s.toNat) = -1 := by
  unfold ownE
  cases hs : isS c s with
  | false => simp
  | true =>
    simp only [Bool.true_eq_false, if_false, true_and]
    by_cases h1 : who < 0 ∨ 6 ≤ who
    · rw [if_pos h1]; constructor
      · intro h; cases h
      · intro h; omega
    · rw [if_neg h1]
      by_cases h2 : c (1 + s.toNat) ≠ -1
      · rw [if_pos h2]; constructor
        · intro h; cases h
        · intro h; exact absurd h.2.2 h2
      · rw [if_neg h2]; constructor
        · intro _; exact ⟨by omega, by omega, by omega⟩
        · intro _; rfl
theorem owned_ok {c : Nat → Int} {s who : Int} : ownedE c s who = 0 ↔ isS c s = true ∧ who ≠ -1 ∧ c (1 + s.toNat) = who := by
  unfold ownedE
  cases hs : isS c s with
  | false => simp
  | true =>
    simp only [Bool.true_eq_false, if_false, true_and]
    by_cases h1 : who = -1 ∨ c (1 + s.toNat) ≠ who
    · rw [if_pos h1]; constructor
      · intro h; cases h
      · intro h; omega
    · rw [if_neg h1]; constructor
      · intro _; exact ⟨by omega, by omega⟩
      · intro _; rfl
theorem free_ok {c : Nat → Int} {s who v : Int} : freeE c s who v = 0 ↔ ownedE c s who = 0 ∧ c (33 + s.toNat) ≤ v ∧ v ≤ c 65 := by
  unfold freeE
  by_cases h0 : ownedE c s who = 0
  · rw [if_neg (by omega)]
    by_cases h1 : v < c (33 + s.toNat) ∨ c 65 < v
    · rw [if_pos h1]; constructor
      · intro h; cases h
      · intro h; omega
    · rw [if_neg h1]; constructor
      · intro _; exact ⟨h0, by omega, by omega⟩
      · intro _; rfl
  · rw [if_pos h0]; constructor
    · intro h; exact absurd h h0
    · intro h; exact absurd h.1 h0
/-- What a step makes of the numbers. -/
theorem doC_forms {c : Nat → Int} (hb : HB c) (s : S11) : doC c s = c ∨ (∃ (k : Nat) (v : Int), k < 32 ∧ doC c s = put c (1 + k) v) ∨ (∃ (k : Nat) (v : Int), k < 32 ∧ c (33 + k) ≤ v ∧ v ≤ c 65 ∧ doC c s = put (put c (33 + k) v) (1 + k) (-1)) ∨ (c 65 < c 66 ∧ doC c s = put c 65 (c 65 + 1)) ∨ (∃ (k : Nat) (v : Int), k < 32 ∧ doC c s = put c (68 + k) v) := by
  unfold doC
  by_cases k0 : s.kind = 0
  · rw [if_pos k0]
    unfold ownC
    by_cases h : ownE c s.at' s.who = 0
    · rw [if_pos h]
      exact .inr (.inl ⟨_, _, isS_lt hb (ownE_isS h), rfl⟩)
    · rw [if_neg h]; exact .inl rfl
  rw [if_neg k0]
  by_cases k1 : s.kind = 1
  · rw [if_pos k1]
    unfold letC
    by_cases h : ownedE c s.at' s.who = 0
    · rw [if_pos h]
      exact .inr (.inl ⟨_, _, isS_lt hb (ownedE_isS h), rfl⟩)
    · rw [if_neg h]; exact .inl rfl
  rw [if_neg k1]
  by_cases k2 : s.kind = 2
  · rw [if_pos k2]
    unfold freeC
    by_cases h : freeE c s.at' s.who s.ver = 0
    · rw [if_pos h]
      obtain ⟨h1, h2, h3⟩ := free_ok.1 h
      exact .inr (.inr (.inl ⟨_, _, isS_lt hb (ownedE_isS h1), h2, h3, rfl⟩))
    · rw [if_neg h]; exact .inl rfl
  rw [if_neg k2]
  by_cases k3 : s.kind = 3
  · rw [if_pos k3]
    unfold bumpC
    by_cases h : c 66 ≤ c 65
    · rw [if_pos h]; exact .inl rfl
    · rw [if_neg h]; exact .inr (.inr (.inr (.inl ⟨by omega, rfl⟩)))
  rw [if_neg k3]
  unfold setC11
  by_cases h : isV c s.at' = true
  · rw [if_pos h]
    obtain ⟨k, hk, hk2, _⟩ := isV_nat hb h
    exact .inr (.inr (.inr (.inr ⟨s.at'.toNat, _, by omega, rfl⟩)))
  · rw [if_neg h]; exact .inl rfl
theorem doC_keep {c : Nat → Int} (hb : HB c) (s : S11) {j : Nat} (hj : j = 0 ∨ j = 66 ∨ j = 67) : doC c s j = c j := by
  rcases doC_forms hb s with h | ⟨k, v, hk, h⟩ | ⟨k, v, hk, _, _, h⟩ | ⟨_, h⟩ | ⟨k, v, hk, h⟩ <;> rw [h]
  · exact put_far (by omega)
  · rw [put_far (by omega), put_far (by omega)]
  · exact put_far (by omega)
  · exact put_far (by omega)
theorem doC_clock {c : Nat → Int} (hb : HB c) (s : S11) : c 65 ≤ doC c s 65 ∧ doC c s 65 ≤ c 65 + 1 := by
  rcases doC_forms hb s with h | ⟨k, v, hk, h⟩ | ⟨k, v, hk, _, _, h⟩ | ⟨_, h⟩ | ⟨k, v, hk, h⟩ <;> rw [h]
  · omega
  · rw [put_far (by omega)]; omega
  · rw [put_far (by omega), put_far (by omega)]; omega
  · rw [put_at]; omega
  · rw [put_far (by omega)]; omega
theorem doC_refused {c : Nat → Int} {s : S11} (h : doE c s ≠ 0) : doC c s = c := by
  unfold doE at h
  unfold doC
  by_cases k0 : s.kind = 0
  · rw [if_pos k0] at h ⊢; exact if_neg h
  rw [if_neg k0] at h ⊢
  by_cases k1 : s.kind = 1
  · rw [if_pos k1] at h ⊢; exact if_neg h
  rw [if_neg k1] at h ⊢
  by_cases k2 : s.kind = 2
  · rw [if_pos k2] at h ⊢; exact if_neg h
  rw [if_neg k2] at h ⊢
  by_cases k3 : s.kind = 3
  · rw [if_pos k3] at h ⊢
    unfold bumpE at h
    unfold bumpC
    by_cases hc : c 66 ≤ c 65
    · rw [if_pos hc]
    · rw [if_neg hc] at h; exact absurd rfl h
  rw [if_neg k3] at h ⊢
  unfold setE at h
  unfold setC11
  by_cases hv : isV c s.at' = true
  · rw [if_pos hv] at h; exact absurd rfl h
  · rw [if_neg hv]
/-- No version is above the clock. -/
def HV (c : Nat → Int) : Prop := ∀ k, k < 32 → 0 ≤ c (33 + k) ∧ c (33 + k) ≤ c 65
theorem HV.step {c : Nat → Int} (hv : HV c) (hb : HB c) (s : S11) : HV (doC c s) ∧ ∀ k, k < 32 → c (33 + k) ≤ doC c s (33 + k) := by
  rcases doC_forms hb s with h | ⟨i, v, hi, h⟩ | ⟨i, v, hi, h1, h2, h⟩ | ⟨hc, h⟩ | ⟨i, v, hi, h⟩ <;> rw [h]
  · exact ⟨hv, fun k _ => Int.le_refl _⟩
  · refine ⟨fun k hk => ?_, fun k hk => ?_⟩
    · rw [put_far (by omega), put_far (by omega)]; exact hv k hk
    · rw [put_far (by omega)]; exact Int.le_refl _
  · refine ⟨fun k hk => ?_, fun k hk => ?_⟩
    · rw [put_far (j := 33 + k) (by omega), put_far (j := 65) (by omega), put_far (j := 65) (by omega)]
      by_cases hki : k = i
      · subst hki
        rw [put_at]
        have := hv k hk
        omega
      · rw [put_far (by omega)]; exact hv k hk
    · rw [put_far (j := 33 + k) (by omega)]
      by_cases hki : k = i
      · subst hki; rw [put_at]; exact h1
      · rw [put_far (by omega)]; exact Int.le_refl _
  · refine ⟨fun k hk => ?_, fun k hk => ?_⟩
    · rw [put_far (by omega), put_at]
      have := hv k hk
      omega
    · rw [put_far (by omega)]; exact Int.le_refl _
  · refine ⟨fun k hk => ?_, fun k hk => ?_⟩
    · rw [put_far (by omega), put_far (by omega)]; exact hv k hk
    · rw [put_far (by omega)]; exact Int.le_refl _
theorem HV.new {L : List Int} {st limit : Int} (h : badH L.length st limit = false) : HV (newF L st limit) := fun k hk => by
  obtain ⟨h1, h2, h3, h4, h5, h6⟩ := badH_no h
  rw [new_version hk (by omega), new_clock (by omega)]
  omega
theorem playF_keep {c : Nat → Int} (hb : HB c) (L : List S11) {j : Nat} (hj : j = 0 ∨ j = 66 ∨ j = 67) : ∀ k, playF c L k j = c j
  | 0 => rfl
  | k + 1 => (doC_keep (hb.play L k) (nth11 L k) hj).trans (playF_keep hb L hj k)
set_option maxHeartbeats 4000000 in
theorem played_nil {L : List Int} {st limit : Int} (h : badH L.length st limit = false) {w : World} {A : Option Addr} (c : Nat) (hI : Ints w w.heap.size A L) : Calls Try.prog 33 #[.slice A L.length c, .int .i64 st, .int .i64 limit, .slice none 0 0] w fun e w' => ∃ g, e = .returned (.pointer (some ⟨g, 0, none⟩)) ∧ HeapAt w' g (newF L st limit) ∧ w.heap.size ≤ g ∧ Below w.heap.size w w' := played_yes h c 0 hI (S := []) (fun i hi => absurd hi (by simp)) (by simp)
end Go.Proofs.Ytokhcogmoleocaa
