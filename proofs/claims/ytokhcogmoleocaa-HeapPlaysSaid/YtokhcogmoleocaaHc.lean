/-
  CONTRACTS OF PACKAGE heap: a heap's calls, not of nil. Laid by gen/gen_hc.py. Conditions: as they stand.
-/
import Derived.Test.YtokhcogmoleocaaHb
namespace Go.Proofs.Ytokhcogmoleocaa
set_option maxRecDepth 100000
open Go.RowKit Go.Deep
set_option linter.unusedVariables false
def stripeF (c : Nat → Int) (v : Int) : Int := if isV c v = true then v % c 0 else -1
def valueF (c : Nat → Int) (v : Int) : Int := if isV c v = true then c (68 + v.toNat) else 0
def setE (c : Nat → Int) (v : Int) : Int := if isV c v = true then 0 else 5
def setC11 (c : Nat → Int) (v x : Int) : Nat → Int := if isV c v = true then put c (68 + v.toNat) x else c
section
variable {w : World} {g : Nat} {c : Nat → Int}
theorem isV_nat {v : Int} (hb : HB c) (h : isV c v = true) : ∃ k : Nat, v = k ∧ k < 32 ∧ (k : Int) < c 67 := by
  obtain ⟨h1, h2⟩ := isV_iff.1 h
  have := hb.v2
  exact ⟨v.toNat, by omega, by omega, by omega⟩
set_option maxHeartbeats 4000000 in
theorem vars_any (h : HeapAt w g c) : Calls Try.prog 15 #[.pointer (some ⟨g, 0, none⟩)] w fun e w' => e = .returned (.int .i64 (c 67)) ∧ w = w' := by
  have c1 := h.cell (i := 67) (by decide)
  obtain ⟨x, hx⟩ : ∃ x, x = c 67 := ⟨_, rfl⟩
  rw [← hx] at c1 ⊢
  have HH := Lib.hid (here_any w g)
  clear h hx
  go_enter Try.func15, Try.ntmps15
  go_wp2_with fail
  refine HH.out.mono ?_
  rintro e w' ⟨rfl, rfl⟩
  go_wp2_with fail
  go_ret
  exact ⟨rfl, rfl⟩
set_option maxHeartbeats 4000000 in
theorem stripes_any (h : HeapAt w g c) : Calls Try.prog 16 #[.pointer (some ⟨g, 0, none⟩)] w fun e w' => e = .returned (.int .i64 (c 0)) ∧ w = w' := by
  have c1 := h.cell (i := 0) (by decide)
  obtain ⟨x, hx⟩ : ∃ x, x = c 0 := ⟨_, rfl⟩
  rw [← hx] at c1 ⊢
  have HH := Lib.hid (here_any w g)
  clear h hx
  go_enter Try.func16, Try.ntmps16
  go_wp2_with fail
  refine HH.out.mono ?_
  rintro e w' ⟨rfl, rfl⟩
  go_wp2_with fail
  go_ret
  exact ⟨rfl, rfl⟩
set_option maxHeartbeats 4000000 in
theorem clock_any (h : HeapAt w g c) : Calls Try.prog 17 #[.pointer (some ⟨g, 0, none⟩)] w fun e w' => e = .returned (.int .i64 (c 65)) ∧ w = w' := by
  have c1 := h.cell (i := 65) (by decide)
  obtain ⟨x, hx⟩ : ∃ x, x = c 65 := ⟨_, rfl⟩
  rw [← hx] at c1 ⊢
  have HH := Lib.hid (here_any w g)
  clear h hx
  go_enter Try.func17, Try.ntmps17
  go_wp2_with fail
  refine HH.out.mono ?_
  rintro e w' ⟨rfl, rfl⟩
  go_wp2_with fail
  go_ret
  exact ⟨rfl, rfl⟩
set_option maxHeartbeats 4000000 in
theorem limit_any (h : HeapAt w g c) : Calls Try.prog 18 #[.pointer (some ⟨g, 0, none⟩)] w fun e w' => e = .returned (.int .i64 (c 66)) ∧ w = w' := by
  have c1 := h.cell (i := 66) (by decide)
  obtain ⟨x, hx⟩ : ∃ x, x = c 66 := ⟨_, rfl⟩
  rw [← hx] at c1 ⊢
  have HH := Lib.hid (here_any w g)
  clear h hx
  go_enter Try.func18, Try.ntmps18
  go_wp2_with fail
  refine HH.out.mono ?_
  rintro e w' ⟨rfl, rfl⟩
  go_wp2_with fail
  go_ret
  exact ⟨rfl, rfl⟩
set_option maxHeartbeats 4000000 in
theorem howner_any (h : HeapAt w g c) (hb : HB c) (s : Int) : Calls Try.prog 20 #[.pointer (some ⟨g, 0, none⟩), .int .i64 s] w fun e w' => e = .returned (.int .i64 (ownerF c s)) ∧ w = w' := by
  have HH := Lib.hid (here_any w g)
  have HO := Lib.hid (owner_any h hb s)
  obtain ⟨x, hx⟩ : ∃ x, x = ownerF c s := ⟨_, rfl⟩
  rw [← hx] at HO ⊢
  clear h hx hb
  go_enter Try.func20, Try.ntmps20
  go_wp2_with fail
  refine HH.out.mono ?_
  rintro e w' ⟨rfl, rfl⟩
  go_wp2_with fail
  refine HO.out.mono ?_
  rintro e w' ⟨rfl, rfl⟩
  go_wp2_with fail
  go_ret
  exact ⟨rfl, rfl⟩
set_option maxHeartbeats 4000000 in
theorem hversion_any (h : HeapAt w g c) (hb : HB c) (s : Int) : Calls Try.prog 21 #[.pointer (some ⟨g, 0, none⟩), .int .i64 s] w fun e w' => e = .returned (.int .i64 (versionF c s)) ∧ w = w' := by
  have HH := Lib.hid (here_any w g)
  have HO := Lib.hid (version_any h hb s)
  obtain ⟨x, hx⟩ : ∃ x, x = versionF c s := ⟨_, rfl⟩
  rw [← hx] at HO ⊢
  clear h hx hb
  go_enter Try.func21, Try.ntmps21
  go_wp2_with fail
  refine HH.out.mono ?_
  rintro e w' ⟨rfl, rfl⟩
  go_wp2_with fail
  refine HO.out.mono ?_
  rintro e w' ⟨rfl, rfl⟩
  go_wp2_with fail
  go_ret
  exact ⟨rfl, rfl⟩
set_option maxHeartbeats 4000000 in
theorem stripe_any (h : HeapAt w g c) (hb : HB c) (v : Int) : Calls Try.prog 19 #[.pointer (some ⟨g, 0, none⟩), .int .i64 v] w fun e w' => e = .returned (.int .i64 (stripeF c v)) ∧ w = w' := by
  have HH := Lib.hid (here_any w g)
  have hi := hasv_any h v
  cases hs : isV c v with
  | false =>
    rw [hs] at hi
    rw [show stripeF c v = -1 by unfold stripeF; rw [if_neg (by rw [hs]; decide)]]
    clear h hs
    go_enter Try.func19, Try.ntmps19
    go_wp2_with fail
    refine HH.out.mono ?_
    rintro e w' ⟨rfl, rfl⟩
    go_wp2_with fail
    refine hi.mono ?_
    rintro e w' ⟨rfl, rfl⟩
    go_wp2_with fail
    go_ret
    exact ⟨rfl, rfl⟩
  | true =>
    obtain ⟨k, rfl, hk, _⟩ := isV_nat hb hs
    rw [hs] at hi
    rw [show stripeF c (k : Int) = (k : Int) % c 0 by unfold stripeF; exact if_pos hs]
    have i1 : (0 : Int) ≤ (k : Int) := by omega
    have i2 : (k : Int) < 32 := by omega
    have c1 := h.cell (i := 0) (by decide)
    have s1 := hb.s1
    have s2 := hb.s2
    obtain ⟨x, hx⟩ : ∃ x, x = c 0 := ⟨_, rfl⟩
    rw [← hx] at c1 s1 s2 ⊢
    have m1 : wrap64 ((k : Int).tmod x) = (k : Int).tmod x := by
      rw [Int.tmod_eq_emod_of_nonneg (by omega)]
      have := Int.emod_nonneg (k : Int) (show x ≠ 0 by omega)
      have := Int.emod_lt_of_pos (k : Int) (show 0 < x by omega)
      unfold wrap64
      omega
    have n0 : (x == 0) = false := beq_eq_false_iff_ne.2 (by omega)
    have n1 : ¬ x = 0 := by omega
    clear hx hb
    clear h hs
    go_enter Try.func19, Try.ntmps19
    go_wp2_with fail
    refine HH.out.mono ?_
    rintro e w' ⟨rfl, rfl⟩
    go_wp2_with fail
    refine hi.mono ?_
    rintro e w' ⟨rfl, rfl⟩
    go_wp2_with fail
    go_ret
    exact ⟨rfl, rfl⟩
set_option maxHeartbeats 4000000 in
theorem value_any (h : HeapAt w g c) (hb : HB c) (v : Int) : Calls Try.prog 22 #[.pointer (some ⟨g, 0, none⟩), .int .i64 v] w fun e w' => e = .returned (.int .i64 (valueF c v)) ∧ w = w' := by
  have HH := Lib.hid (here_any w g)
  have hi := hasv_any h v
  cases hs : isV c v with
  | false =>
    rw [hs] at hi
    rw [show valueF c v = 0 by unfold valueF; rw [if_neg (by rw [hs]; decide)]]
    clear h hs
    go_enter Try.func22, Try.ntmps22
    go_wp2_with fail
    refine HH.out.mono ?_
    rintro e w' ⟨rfl, rfl⟩
    go_wp2_with fail
    refine hi.mono ?_
    rintro e w' ⟨rfl, rfl⟩
    go_wp2_with fail
    go_ret
    exact ⟨rfl, rfl⟩
  | true =>
    obtain ⟨k, rfl, hk, _⟩ := isV_nat hb hs
    rw [hs] at hi
    rw [show valueF c (k : Int) = c (68 + k) by unfold valueF; exact if_pos hs]
    have i1 : (0 : Int) ≤ (k : Int) := by omega
    have i2 : (k : Int) < 32 := by omega
    have c1 := h.cell (i := 68 + k) (by omega)
    obtain ⟨x, hx⟩ : ∃ x, x = c (68 + k) := ⟨_, rfl⟩
    rw [← hx] at c1 ⊢
    clear hx hb
    clear h hs
    go_enter Try.func22, Try.ntmps22
    go_wp2_with fail
    refine HH.out.mono ?_
    rintro e w' ⟨rfl, rfl⟩
    go_wp2_with fail
    refine hi.mono ?_
    rintro e w' ⟨rfl, rfl⟩
    go_wp2_with fail
    go_ret
    exact ⟨rfl, rfl⟩
set_option maxHeartbeats 4000000 in
theorem own_any (h : HeapAt w g c) (hb : HB c) (s who : Int) : Calls Try.prog 11 #[.pointer (some ⟨g, 0, none⟩), .int .i64 s, .int .i64 who] w fun e w' => e = .returned (.int .i64 (ownE c s who)) ∧ UpdH w g (ownC c s who) w' := by
  have HO := Lib.hid (own_l h hb s who)
  obtain ⟨x, hx⟩ : ∃ x, x = ownE c s who := ⟨_, rfl⟩
  rw [← hx] at HO ⊢
  clear h hx hb
  go_enter Try.func11, Try.ntmps11
  go_wp2_with fail
  refine HO.out.mono ?_
  rintro e w' ⟨rfl, hU⟩
  have HU := Lib.hid hU
  clear hU
  go_wp2_with fail
  go_ret
  exact ⟨rfl, HU.out⟩
set_option maxHeartbeats 4000000 in
theorem let_any (h : HeapAt w g c) (hb : HB c) (s who : Int) : Calls Try.prog 12 #[.pointer (some ⟨g, 0, none⟩), .int .i64 s, .int .i64 who] w fun e w' => e = .returned (.int .i64 (ownedE c s who)) ∧ UpdH w g (letC c s who) w' := by
  have HO := Lib.hid (let_l h hb s who)
  obtain ⟨x, hx⟩ : ∃ x, x = ownedE c s who := ⟨_, rfl⟩
  rw [← hx] at HO ⊢
  clear h hx hb
  go_enter Try.func12, Try.ntmps12
  go_wp2_with fail
  refine HO.out.mono ?_
  rintro e w' ⟨rfl, hU⟩
  have HU := Lib.hid hU
  clear hU
  go_wp2_with fail
  go_ret
  exact ⟨rfl, HU.out⟩
set_option maxHeartbeats 4000000 in
theorem free_any (h : HeapAt w g c) (hb : HB c) (s who v : Int) : Calls Try.prog 13 #[.pointer (some ⟨g, 0, none⟩), .int .i64 s, .int .i64 who, .int .i64 v] w fun e w' => e = .returned (.int .i64 (freeE c s who v)) ∧ UpdH w g (freeC c s who v) w' := by
  have HO := Lib.hid (free_l h hb s who v)
  obtain ⟨x, hx⟩ : ∃ x, x = freeE c s who v := ⟨_, rfl⟩
  rw [← hx] at HO ⊢
  clear h hx hb
  go_enter Try.func13, Try.ntmps13
  go_wp2_with fail
  refine HO.out.mono ?_
  rintro e w' ⟨rfl, hU⟩
  have HU := Lib.hid hU
  clear hU
  go_wp2_with fail
  go_ret
  exact ⟨rfl, HU.out⟩
set_option maxHeartbeats 4000000 in
theorem bump_l (h : HeapAt w g c) (hb : HB c) : Calls Try.prog 35 #[.pointer (some ⟨g, 0, none⟩)] w fun e w' => e = .returned (.tuple #[.int .i64 (bumpN c), .int .i64 (bumpE c)]) ∧ UpdH w g (bumpC c) w' := by
  have HU : Hid (∀ n, UpdH w g c (w.drewN n)) := fun n => (UpdH.refl h).drewN n
  have c1 := h.cell (i := 65) (by decide)
  have c2 := h.cell (i := 66) (by decide)
  have f1 := h.fr 65
  have k1 := hb.k1
  have k3 := hb.k3
  by_cases hc : c 66 ≤ c 65
  · rw [show bumpN c = 0 by unfold bumpN; rw [if_pos hc], show bumpE c = 41 by unfold bumpE; rw [if_pos hc], show bumpC c = c by unfold bumpC; rw [if_pos hc]]
    obtain ⟨x, hx⟩ : ∃ x, x = c 65 := ⟨_, rfl⟩
    obtain ⟨y, hy⟩ : ∃ y, y = c 66 := ⟨_, rfl⟩
    rw [← hx] at c1 k1 hc
    rw [← hy] at c2 k3 hc
    clear hx hy h hb
    go_enter Try.func35, Try.ntmps35
    go_upto_region 1 with fail
    go_quiet (fail)
    go_wp2_with fail
    go_ret2
    exact ⟨rfl, HU.out _⟩
  · rw [show bumpN c = c 65 + 1 by unfold bumpN; rw [if_neg hc], show bumpE c = 0 by unfold bumpE; rw [if_neg hc], show bumpC c = put c 65 (c 65 + 1) by unfold bumpC; rw [if_neg hc]]
    have HS : Hid (∀ n, UpdH w g (put c 65 (c 65 + 1)) ((w.drewN n).setCell ⟨g, 65, none⟩ (.int .i64 (c 65 + 1)))) := fun n => (HU.out n).set (i := 65) (by decide) (c 65 + 1)
    obtain ⟨x, hx⟩ : ∃ x, x = c 65 := ⟨_, rfl⟩
    obtain ⟨y, hy⟩ : ∃ y, y = c 66 := ⟨_, rfl⟩
    rw [← hx] at c1 k1 hc HS ⊢
    rw [← hy] at c2 k3 hc
    have m1 : wrap64 (x + 1) = x + 1 := by unfold wrap64; omega
    clear hx hy h hb HU
    go_enter Try.func35, Try.ntmps35
    go_upto_region 1 with fail
    go_quiet (fail)
    go_wp2_with fail
    go_ret2
    exact ⟨rfl, HS.out _⟩
set_option maxHeartbeats 4000000 in
theorem bump_any (h : HeapAt w g c) (hb : HB c) : Calls Try.prog 9 #[.pointer (some ⟨g, 0, none⟩)] w fun e w' => e = .returned (.tuple #[.int .i64 (bumpN c), .int .i64 (bumpE c)]) ∧ UpdH w g (bumpC c) w' := by
  have HO := Lib.hid (bump_l h hb)
  obtain ⟨x, hx⟩ : ∃ x, x = bumpN c := ⟨_, rfl⟩
  obtain ⟨y, hy⟩ : ∃ y, y = bumpE c := ⟨_, rfl⟩
  rw [← hx, ← hy] at HO ⊢
  clear h hx hy hb
  go_enter Try.func9, Try.ntmps9
  go_wp2_with fail
  refine HO.out.mono ?_
  rintro e w' ⟨rfl, hU⟩
  have HU := Lib.hid hU
  clear hU
  go_wp2_with fail
  go_ret2
  exact ⟨rfl, HU.out⟩
set_option maxHeartbeats 4000000 in
theorem set_any11 (h : HeapAt w g c) (hb : HB c) (v x : Int) : Calls Try.prog 14 #[.pointer (some ⟨g, 0, none⟩), .int .i64 v, .int .i64 x] w fun e w' => e = .returned (.int .i64 (setE c v)) ∧ UpdH w g (setC11 c v x) w' := by
  have HU := Lib.hid (UpdH.refl h)
  have hi := hasv_any h v
  cases hs : isV c v with
  | false =>
    rw [hs] at hi
    rw [show setE c v = 5 by unfold setE; rw [if_neg (by rw [hs]; decide)], show setC11 c v x = c by unfold setC11; rw [if_neg (by rw [hs]; decide)]]
    clear h hs
    go_enter Try.func14, Try.ntmps14
    go_wp2_with fail
    refine hi.mono ?_
    rintro e w' ⟨rfl, rfl⟩
    go_wp2_with fail
    go_ret
    exact ⟨rfl, HU.out⟩
  | true =>
    obtain ⟨k, rfl, hk, _⟩ := isV_nat hb hs
    rw [hs] at hi
    rw [show setE c (k : Int) = 0 by unfold setE; rw [if_pos hs], show setC11 c (k : Int) x = put c (68 + k) x by unfold setC11; rw [if_pos hs]; rfl]
    have i1 : (0 : Int) ≤ (k : Int) := by omega
    have i2 : (k : Int) < 32 := by omega
    have c1 := h.cell (i := 68 + k) (by omega)
    have f1 := h.fr (68 + k)
    have HS := Lib.hid (HU.out.set (i := 68 + k) (by omega) x)
    obtain ⟨y, hy⟩ : ∃ y, y = c (68 + k) := ⟨_, rfl⟩
    rw [← hy] at c1
    clear h hs hy
    go_enter Try.func14, Try.ntmps14
    go_wp2_with fail
    refine hi.mono ?_
    rintro e w' ⟨rfl, rfl⟩
    go_wp2_with fail
    go_ret
    exact ⟨rfl, HS.out⟩
end
end Go.Proofs.Ytokhcogmoleocaa
