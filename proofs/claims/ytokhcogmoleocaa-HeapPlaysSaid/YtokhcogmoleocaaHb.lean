/-
  CONTRACTS OF PACKAGE heap: what a heap's locks tell and do. Conditions: as they stand.
-/
import Derived.Test.YtokhcogmoleocaaHa
namespace Go.Proofs.Ytokhcogmoleocaa
set_option maxRecDepth 100000
open Go.RowKit Go.Deep
set_option linter.unusedVariables false
theorem isS_iff {c : Nat → Int} {s : Int} : isS c s = true ↔ 0 ≤ s ∧ s < c 0 := by simp [isS]
theorem isV_iff {c : Nat → Int} {v : Int} : isV c v = true ↔ 0 ≤ v ∧ v < c 67 := by simp [isV]
def ownerF (c : Nat → Int) (s : Int) : Int := if isS c s = true then c (1 + s.toNat) else -1
def versionF (c : Nat → Int) (s : Int) : Int := if isS c s = true then c (33 + s.toNat) else 0
def ownE (c : Nat → Int) (s who : Int) : Int := if isS c s = false then 5 else if who < 0 ∨ 6 ≤ who then 1 else if c (1 + s.toNat) ≠ -1 then 6 else 0
def ownC (c : Nat → Int) (s who : Int) : Nat → Int := if ownE c s who = 0 then put c (1 + s.toNat) who else c
def ownedE (c : Nat → Int) (s who : Int) : Int := if isS c s = false then 5 else if who = -1 ∨ c (1 + s.toNat) ≠ who then 7 else 0
def letC (c : Nat → Int) (s who : Int) : Nat → Int := if ownedE c s who = 0 then put c (1 + s.toNat) (-1) else c
def freeE (c : Nat → Int) (s who v : Int) : Int := if ownedE c s who ≠ 0 then ownedE c s who else if v < c (33 + s.toNat) ∨ c 65 < v then 1 else 0
def freeC (c : Nat → Int) (s who v : Int) : Nat → Int := if freeE c s who v = 0 then put (put c (33 + s.toNat) v) (1 + s.toNat) (-1) else c
def bumpN (c : Nat → Int) : Int := if c 66 ≤ c 65 then 0 else c 65 + 1
def bumpE (c : Nat → Int) : Int := if c 66 ≤ c 65 then 41 else 0
def bumpC (c : Nat → Int) : Nat → Int := if c 66 ≤ c 65 then c else put c 65 (c 65 + 1)
section
variable {w : World} {g : Nat} {c : Nat → Int}
/-- A stripe that there is, as a number. -/
theorem isS_nat {s : Int} (hb : HB c) (h : isS c s = true) : ∃ k : Nat, s = k ∧ k < 32 ∧ (k : Int) < c 0 := by
  obtain ⟨h1, h2⟩ := isS_iff.1 h
  have := hb.s2
  exact ⟨s.toNat, by omega, by omega, by omega⟩
set_option maxHeartbeats 4000000 in
theorem owner_any (h : HeapAt w g c) (hb : HB c) (s : Int) : Calls Try.prog 41 #[.pointer (some ⟨g, 0, none⟩), .int .i64 s] w fun e w' => e = .returned (.int .i64 (ownerF c s)) ∧ w = w' := by
  have hi := is_any h s
  cases hs : isS c s with
  | false =>
    rw [hs] at hi
    rw [show ownerF c s = -1 by unfold ownerF; rw [if_neg (by rw [hs]; decide)]]
    clear h hs
    go_enter Try.func41, Try.ntmps41
    go_wp2_with fail
    refine hi.mono ?_
    rintro e w' ⟨rfl, rfl⟩
    go_wp2_with fail
    go_ret
    exact ⟨rfl, rfl⟩
  | true =>
    obtain ⟨k, rfl, hk, _⟩ := isS_nat hb hs
    rw [hs] at hi
    rw [show ownerF c (k : Int) = c (1 + k) by unfold ownerF; rw [if_pos hs]; rfl]
    have c1 := h.cell (i := 1 + k) (by omega)
    obtain ⟨x, hx⟩ : ∃ x, x = c (1 + k) := ⟨_, rfl⟩
    rw [← hx] at c1 ⊢
    have i1 : (0 : Int) ≤ (k : Int) := by omega
    have i2 : (k : Int) < 32 := by omega
    clear h hs hx
    go_enter Try.func41, Try.ntmps41
    go_wp2_with fail
    refine hi.mono ?_
    rintro e w' ⟨rfl, rfl⟩
    go_wp2_with fail
    go_ret
    exact ⟨rfl, rfl⟩
set_option maxHeartbeats 4000000 in
theorem version_any (h : HeapAt w g c) (hb : HB c) (s : Int) : Calls Try.prog 42 #[.pointer (some ⟨g, 0, none⟩), .int .i64 s] w fun e w' => e = .returned (.int .i64 (versionF c s)) ∧ w = w' := by
  have hi := is_any h s
  cases hs : isS c s with
  | false =>
    rw [hs] at hi
    rw [show versionF c s = 0 by unfold versionF; rw [if_neg (by rw [hs]; decide)]]
    clear h hs
    go_enter Try.func42, Try.ntmps42
    go_wp2_with fail
    refine hi.mono ?_
    rintro e w' ⟨rfl, rfl⟩
    go_wp2_with fail
    go_ret
    exact ⟨rfl, rfl⟩
  | true =>
    obtain ⟨k, rfl, hk, _⟩ := isS_nat hb hs
    rw [hs] at hi
    rw [show versionF c (k : Int) = c (33 + k) by unfold versionF; rw [if_pos hs]; rfl]
    have c1 := h.cell (i := 33 + k) (by omega)
    obtain ⟨x, hx⟩ : ∃ x, x = c (33 + k) := ⟨_, rfl⟩
    rw [← hx] at c1 ⊢
    have i1 : (0 : Int) ≤ (k : Int) := by omega
    have i2 : (k : Int) < 32 := by omega
    clear h hs hx
    go_enter Try.func42, Try.ntmps42
    go_wp2_with fail
    refine hi.mono ?_
    rintro e w' ⟨rfl, rfl⟩
    go_wp2_with fail
    go_ret
    exact ⟨rfl, rfl⟩
set_option maxHeartbeats 4000000 in
theorem own_l (h : HeapAt w g c) (hb : HB c) (s who : Int) : Calls Try.prog 36 #[.pointer (some ⟨g, 0, none⟩), .int .i64 s, .int .i64 who] w fun e w' => e = .returned (.int .i64 (ownE c s who)) ∧ UpdH w g (ownC c s who) w' := by
  have hi := is_any h s
  have HU := Lib.hid (UpdH.refl h)
  cases hs : isS c s with
  | false =>
    rw [hs] at hi
    have e1 : ownE c s who = 5 := by unfold ownE; rw [if_pos hs]
    rw [show ownC c s who = c by unfold ownC; rw [if_neg (by omega)], e1]
    clear h hs e1
    go_enter Try.func36, Try.ntmps36
    go_wp2_with fail
    refine hi.mono ?_
    rintro e w' ⟨rfl, rfl⟩
    go_wp2_with fail
    go_ret
    exact ⟨rfl, HU.out⟩
  | true =>
    obtain ⟨k, rfl, hk, _⟩ := isS_nat hb hs
    rw [hs] at hi
    have e0 : ¬ isS c (k : Int) = false := by rw [hs]; decide
    by_cases hw1 : who < 0
    · have e1 : ownE c (k : Int) who = 1 := by unfold ownE; rw [if_neg e0, if_pos (.inl hw1)]
      rw [show ownC c (k : Int) who = c by unfold ownC; rw [if_neg (by omega)], e1]
      clear h hs e1 e0
      go_enter Try.func36, Try.ntmps36
      go_wp2_with fail
      refine hi.mono ?_
      rintro e w' ⟨rfl, rfl⟩
      go_wp2_with fail
      go_ret
      exact ⟨rfl, HU.out⟩
    · by_cases hw2 : 6 ≤ who
      · have e1 : ownE c (k : Int) who = 1 := by unfold ownE; rw [if_neg e0, if_pos (.inr hw2)]
        rw [show ownC c (k : Int) who = c by unfold ownC; rw [if_neg (by omega)], e1]
        clear h hs e1 e0
        go_enter Try.func36, Try.ntmps36
        go_wp2_with fail
        refine hi.mono ?_
        rintro e w' ⟨rfl, rfl⟩
        go_wp2_with fail
        go_ret
        exact ⟨rfl, HU.out⟩
      · have c1 := h.cell (i := 1 + k) (by omega)
        have f1 := h.fr (1 + k)
        have i1 : (0 : Int) ≤ (k : Int) := by omega
        have i2 : (k : Int) < 32 := by omega
        have e2 : ¬ (who < 0 ∨ 6 ≤ who) := by omega
        have e3 : c (1 + (k : Int).toNat) = c (1 + k) := rfl
        obtain ⟨x, hx⟩ : ∃ x, x = c (1 + k) := ⟨_, rfl⟩
        rw [← hx] at c1 e3
        by_cases hx1 : x = -1
        · have q : (x != -1) = false := bne_eq_false_iff_eq.2 hx1
          have e1 : ownE c (k : Int) who = 0 := by unfold ownE; rw [if_neg e0, if_neg e2, e3, if_neg (by omega)]
          rw [show ownC c (k : Int) who = put c (1 + k) who by unfold ownC; rw [if_pos e1]; rfl, e1]
          have HS := Lib.hid (HU.out.set (i := 1 + k) (by omega) who)
          clear h hs e1 e0 e2 e3 hx hx1
          go_enter Try.func36, Try.ntmps36
          go_wp2_with fail
          refine hi.mono ?_
          rintro e w' ⟨rfl, rfl⟩
          go_wp2_with fail
          go_ret
          exact ⟨rfl, HS.out⟩
        · have q : (x != -1) = true := bne_iff_ne.2 hx1
          have e1 : ownE c (k : Int) who = 6 := by unfold ownE; rw [if_neg e0, if_neg e2, e3, if_pos (by omega)]
          rw [show ownC c (k : Int) who = c by unfold ownC; rw [if_neg (by omega)], e1]
          clear h hs e1 e0 e2 e3 hx hx1
          go_enter Try.func36, Try.ntmps36
          go_wp2_with fail
          refine hi.mono ?_
          rintro e w' ⟨rfl, rfl⟩
          go_wp2_with fail
          go_ret
          exact ⟨rfl, HU.out⟩
set_option maxHeartbeats 4000000 in
theorem owned_l (h : HeapAt w g c) (hb : HB c) (s who : Int) : Calls Try.prog 56 #[.pointer (some ⟨g, 0, none⟩), .int .i64 s, .int .i64 who] w fun e w' => e = .returned (.int .i64 (ownedE c s who)) ∧ w = w' := by
  have hi := is_any h s
  cases hs : isS c s with
  | false =>
    rw [hs] at hi
    rw [show ownedE c s who = 5 by unfold ownedE; rw [if_pos hs]]
    clear h hs
    go_enter Try.func56, Try.ntmps56
    go_wp2_with fail
    refine hi.mono ?_
    rintro e w' ⟨rfl, rfl⟩
    go_wp2_with fail
    go_ret
    exact ⟨rfl, rfl⟩
  | true =>
    obtain ⟨k, rfl, hk, _⟩ := isS_nat hb hs
    rw [hs] at hi
    have e0 : ¬ isS c (k : Int) = false := by rw [hs]; decide
    by_cases hw1 : who = -1
    · rw [show ownedE c (k : Int) who = 7 by unfold ownedE; rw [if_neg e0, if_pos (.inl hw1)]]
      have q : (who == -1) = true := beq_iff_eq.2 hw1
      clear h hs e0 hw1
      go_enter Try.func56, Try.ntmps56
      go_wp2_with fail
      refine hi.mono ?_
      rintro e w' ⟨rfl, rfl⟩
      go_wp2_with fail
      go_ret
      exact ⟨rfl, rfl⟩
    · have q : (who == -1) = false := beq_eq_false_iff_ne.2 hw1
      have c1 := h.cell (i := 1 + k) (by omega)
      have i1 : (0 : Int) ≤ (k : Int) := by omega
      have i2 : (k : Int) < 32 := by omega
      have e3 : c (1 + (k : Int).toNat) = c (1 + k) := rfl
      obtain ⟨x, hx⟩ : ∃ x, x = c (1 + k) := ⟨_, rfl⟩
      rw [← hx] at c1 e3
      by_cases hx1 : x = who
      · have q2 : (x != who) = false := bne_eq_false_iff_eq.2 hx1
        rw [show ownedE c (k : Int) who = 0 by unfold ownedE; rw [if_neg e0, e3, if_neg (by omega)]]
        clear h hs e0 e3 hx hx1 hw1
        go_enter Try.func56, Try.ntmps56
        go_wp2_with fail
        refine hi.mono ?_
        rintro e w' ⟨rfl, rfl⟩
        go_wp2_with fail
        go_ret
        exact ⟨rfl, rfl⟩
      · have q2 : (x != who) = true := bne_iff_ne.2 hx1
        rw [show ownedE c (k : Int) who = 7 by unfold ownedE; rw [if_neg e0, e3, if_pos (.inr hx1)]]
        clear h hs e0 e3 hx hx1 hw1
        go_enter Try.func56, Try.ntmps56
        go_wp2_with fail
        refine hi.mono ?_
        rintro e w' ⟨rfl, rfl⟩
        go_wp2_with fail
        go_ret
        exact ⟨rfl, rfl⟩
theorem ownedE_in (hb : HB c) {s who : Int} : (∃ k : Nat, s = k ∧ k < 32 ∧ ownedE c s who = 0 ∧ who ≠ -1 ∧ c (1 + k) = who ∧ isS c s = true) ∨ ownedE c s who = 5 ∨ ownedE c s who = 7 := by
  unfold ownedE
  cases hs : isS c s with
  | false => exact .inr (.inl rfl)
  | true =>
    obtain ⟨k, rfl, hk, _⟩ := isS_nat hb hs
    have e3 : c (1 + (k : Int).toNat) = c (1 + k) := rfl
    simp only [Bool.true_eq_false, if_false, e3]
    by_cases h : who = -1 ∨ c (1 + k) ≠ who
    · rw [if_pos h]; exact .inr (.inr rfl)
    · rw [if_neg h]
      exact .inl ⟨k, rfl, hk, rfl, by omega, by omega, trivial⟩
set_option maxHeartbeats 4000000 in
theorem let_l (h : HeapAt w g c) (hb : HB c) (s who : Int) : Calls Try.prog 37 #[.pointer (some ⟨g, 0, none⟩), .int .i64 s, .int .i64 who] w fun e w' => e = .returned (.int .i64 (ownedE c s who)) ∧ UpdH w g (letC c s who) w' := by
  have hi := owned_l h hb s who
  have HU := Lib.hid (UpdH.refl h)
  rcases ownedE_in hb (s := s) (who := who) with ⟨k, rfl, hk, e, _⟩ | e | e
  · rw [show letC c (k : Int) who = put c (1 + k) (-1) by unfold letC; rw [if_pos e]; rfl]
    rw [e] at hi ⊢
    have c1 := h.cell (i := 1 + k) (by omega)
    have f1 := h.fr (1 + k)
    have i1 : (0 : Int) ≤ (k : Int) := by omega
    have i2 : (k : Int) < 32 := by omega
    have HS := Lib.hid (HU.out.set (i := 1 + k) (by omega) (-1))
    obtain ⟨x, hx⟩ : ∃ x, x = c (1 + k) := ⟨_, rfl⟩
    rw [← hx] at c1
    clear h e hx
    go_enter Try.func37, Try.ntmps37
    go_wp2_with fail
    refine hi.mono ?_
    rintro e w' ⟨rfl, rfl⟩
    go_wp2_with fail
    go_ret
    exact ⟨rfl, HS.out⟩
  · rw [show letC c s who = c by unfold letC; rw [if_neg (by omega)]]
    rw [e] at hi ⊢
    clear h e
    go_enter Try.func37, Try.ntmps37
    go_wp2_with fail
    refine hi.mono ?_
    rintro e w' ⟨rfl, rfl⟩
    go_wp2_with fail
    go_ret
    exact ⟨rfl, HU.out⟩
  · rw [show letC c s who = c by unfold letC; rw [if_neg (by omega)]]
    rw [e] at hi ⊢
    clear h e
    go_enter Try.func37, Try.ntmps37
    go_wp2_with fail
    refine hi.mono ?_
    rintro e w' ⟨rfl, rfl⟩
    go_wp2_with fail
    go_ret
    exact ⟨rfl, HU.out⟩
theorem HB.ver (hb : HB c) {k : Nat} (hk : k < 32) (v : Int) : HB (put c (33 + k) v) := by
  have e : ∀ j, j ≠ 33 + k → put c (33 + k) v j = c j := fun j hj => by unfold put; rw [if_neg hj]
  obtain ⟨a1, a2, a3, a4, a5, a6, a7⟩ := hb
  constructor <;> (simp only [e 0 (by omega), e 65 (by omega), e 66 (by omega), e 67 (by omega)]; assumption)
set_option maxHeartbeats 4000000 in
theorem free_l (h : HeapAt w g c) (hb : HB c) (s who v : Int) : Calls Try.prog 38 #[.pointer (some ⟨g, 0, none⟩), .int .i64 s, .int .i64 who, .int .i64 v] w fun e w' => e = .returned (.int .i64 (freeE c s who v)) ∧ UpdH w g (freeC c s who v) w' := by
  have hi := owned_l h hb s who
  have HU := Lib.hid (UpdH.refl h)
  rcases ownedE_in hb (s := s) (who := who) with ⟨k, rfl, hk, e, hw, ho, hs⟩ | e | e
  · have c1 := h.cell (i := 33 + k) (by omega)
    have f1 := h.fr (33 + k)
    have c65 := h.cell (i := 65) (by decide)
    have i1 : (0 : Int) ≤ (k : Int) := by omega
    have i2 : (k : Int) < 32 := by omega
    have e3 : c (33 + (k : Int).toNat) = c (33 + k) := rfl
    by_cases hv : v < c (33 + k) ∨ c 65 < v
    · have e1 : freeE c (k : Int) who v = 1 := by unfold freeE; rw [if_neg (by omega), e3, if_pos hv]
      rw [show freeC c (k : Int) who v = c by unfold freeC; rw [if_neg (by omega)], e1]
      rw [e] at hi
      obtain ⟨x, hx⟩ : ∃ x, x = c (33 + k) := ⟨_, rfl⟩
      obtain ⟨y, hy⟩ : ∃ y, y = c 65 := ⟨_, rfl⟩
      rw [← hx] at c1 hv
      rw [← hy] at c65 hv
      by_cases hv1 : v < x
      · clear h e e1 e3 hx hy hv hs ho
        go_enter Try.func38, Try.ntmps38
        go_wp2_with fail
        refine hi.mono ?_
        rintro e w' ⟨rfl, rfl⟩
        go_wp2_with fail
        go_ret
        exact ⟨rfl, HU.out⟩
      · have hv2 : y < v := by omega
        clear h e e1 e3 hx hy hv hs ho
        go_enter Try.func38, Try.ntmps38
        go_wp2_with fail
        refine hi.mono ?_
        rintro e w' ⟨rfl, rfl⟩
        go_wp2_with fail
        go_ret
        exact ⟨rfl, HU.out⟩
    · have e1 : freeE c (k : Int) who v = 0 := by unfold freeE; rw [if_neg (by omega), e3, if_neg hv]
      rw [show freeC c (k : Int) who v = put (put c (33 + k) v) (1 + k) (-1) by unfold freeC; rw [if_pos e1]; rfl, e1]
      rw [e] at hi
      have H2 := HU.out.set (i := 33 + k) (by omega) v
      have hsame : ownedE (put c (33 + k) v) (k : Int) who = 0 := by
        have e5 : isS (put c (33 + k) v) (k : Int) = true := by
          rw [← hs]
          unfold isS put
          rw [if_neg (by omega)]
        have e6 : put c (33 + k) v (1 + k) = c (1 + k) := by unfold put; rw [if_neg (by omega)]
        unfold ownedE
        rw [if_neg (by rw [e5]; decide), show (1 + (k : Int).toNat) = 1 + k from rfl, e6, if_neg (by omega)]
      have HL := Lib.hid (let_l H2.at' (hb.ver hk v) (k : Int) who)
      rw [hsame, show letC (put c (33 + k) v) (k : Int) who = put (put c (33 + k) v) (1 + k) (-1) by unfold letC; rw [if_pos hsame]; rfl] at HL
      have HU2 := Lib.hid H2
      obtain ⟨x, hx⟩ : ∃ x, x = c (33 + k) := ⟨_, rfl⟩
      obtain ⟨y, hy⟩ : ∃ y, y = c 65 := ⟨_, rfl⟩
      rw [← hx] at c1 hv
      rw [← hy] at c65 hv
      have hv1 : ¬ v < x := by omega
      have hv2 : ¬ y < v := by omega
      clear h e e1 e3 hx hy hv hs ho H2 hsame HU
      go_enter Try.func38, Try.ntmps38
      go_wp2_with fail
      refine hi.mono ?_
      rintro e w' ⟨rfl, rfl⟩
      go_wp2_with fail
      refine HL.out.mono ?_
      rintro e w3 ⟨rfl, k1, k2, k3, k4⟩
      go_wp2_with fail
      go_ret
      exact ⟨rfl, k1, fun b hb => (k2 b hb).trans (HU2.out.far b hb), k3.trans HU2.out.size, fun B hB => (HU2.out.low B hB).trans (k4 B hB)⟩
  · have e1 : freeE c s who v = 5 := by unfold freeE; rw [if_pos (by omega), e]
    rw [show freeC c s who v = c by unfold freeC; rw [if_neg (by omega)], e1]
    rw [e] at hi
    clear h e e1
    go_enter Try.func38, Try.ntmps38
    go_wp2_with fail
    refine hi.mono ?_
    rintro e w' ⟨rfl, rfl⟩
    go_wp2_with fail
    go_ret
    exact ⟨rfl, HU.out⟩
  · have e1 : freeE c s who v = 7 := by unfold freeE; rw [if_pos (by omega), e]
    rw [show freeC c s who v = c by unfold freeC; rw [if_neg (by omega)], e1]
    rw [e] at hi
    clear h e e1
    go_enter Try.func38, Try.ntmps38
    go_wp2_with fail
    refine hi.mono ?_
    rintro e w' ⟨rfl, rfl⟩
    go_wp2_with fail
    go_ret
    exact ⟨rfl, HU.out⟩
end
end Go.Proofs.Ytokhcogmoleocaa
