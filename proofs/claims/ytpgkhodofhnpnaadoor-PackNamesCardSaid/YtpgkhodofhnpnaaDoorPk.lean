/-
  LAYER 7's READER: what a block is read as, at whatever level; what a thread is read as (thread). Conditions: as XPh's.
-/
import Derived.Test.YtpgkhodofhnpnaaDoorPj
namespace Go.Proofs.YtpgkhodofhnpnaaDoor
set_option maxRecDepth 100000
open Go.RowKit
set_option linter.unusedVariables false
theorem bl_nest {s : List UInt8} (d at_ : Nat) : pBl s (d + 1) at_ = andThen (pNest s 0 40 (6 - d) at_) fun m p => pRep (pSt s (pBl s d)) m p := by
  rw [pBl, pNest, andThen_assoc]
  congr 1
  funext n p
  have h : ¬ (0 < n ∧ 6 < 6 - d) := by omega
  simp only [if_neg h]
  rfl
theorem bl_zero {s : List UInt8} (at_ : Nat) : pBl s 0 at_ = andThen (pNest s 0 40 7 at_) fun m p => .ok ([], p) := by
  rw [pBl, pNest, andThen_assoc]
  congr 1
  funext n p
  by_cases h : n = 0
  · subst h; rfl
  · rw [if_neg h, if_pos ⟨by omega, by omega⟩]; rfl
/-- Behind a number, and as many elements. -/
theorem fin_rep {α : Type} {f : Nat → Res α} {r : Res Nat} {at_ M A1 : Nat} {W0 W1 : Int} (hs : Sane r) (hM : M = outN r W0) (hA : A1 = outAt r at_ W0) (hW : W1 = outWr r W0) :
    outAt (andThen r fun m p => pRep f m p) at_ W0 = outAt (pRep f M A1) A1 W1 ∧ outWr (andThen r fun m p => pRep f m p) W0 = outWr (pRep f M A1) W1 ∧ (W0 = 0 → ∀ y p, (andThen r fun m p => pRep f m p) = .ok (y, p) → W1 = 0 ∧ pRep f M A1 = .ok (y, p)) := by
  by_cases h0 : W0 = 0
  · subst h0
    match r, hs, hM, hA, hW with
    | .error (p, e), hs, hM, hA, hW =>
      have he := hs p e rfl
      have e1 : M = 0 := hM
      have e2 : A1 = p := hA
      have e3 : W1 = e := hW
      subst e1 e2 e3
      exact ⟨(outAt_w he).symm, (outWr_w he).symm, fun _ y p hc => by cases hc⟩
    | .ok (k, p), _, hM, hA, hW =>
      have e1 : M = k := hM
      have e2 : A1 = p := hA
      have e3 : W1 = 0 := hW
      subst e1 e2 e3
      exact ⟨rfl, rfl, fun _ y p hc => ⟨rfl, hc⟩⟩
  · rw [outAt_w h0] at hA
    rw [outWr_w h0] at hW
    subst hA hW
    rw [outAt_w h0, outWr_w h0, outAt_w h0, outWr_w h0]
    exact ⟨rfl, rfl, fun h => absurd h h0⟩
theorem good_stT (s : List UInt8) (d p : Nat) (hp : p ≤ s.length) : GoodP s p (fun _ _ => True) (pSt s (pBl s d) p) := good_mono (good_st (good_bl d) p hp) fun _ _ _ => trivial
theorem block7_any (d : Nat) : ∀ (q g : Nat) (s : ByteArray) (deep : Nat), deep + d = 7 → ∀ (at_ : Nat) (W0 : Int) (n : Nat) (w : World), PR w q g s at_ W0 n → Tab w q g → n + Bnd d ≤ 9000000000000000000 →
    Calls Tryd.prog 53 #[.pointer (some ⟨q, 0, none⟩), .int .i64 deep] w (Bl7 q g s n d (pBl s.data.toList d at_) at_ W0 w) := by
  induction d with
  | zero =>
    intro q g s deep hd at_ W0 n w h ht hn
    obtain rfl : deep = 7 := by omega
    have hsane := (good_nest (s := s.data.toList) (lo := 0) (hi := 40) (deep := 7) h.rd.2.1).sane
    have hM0 : outN (pNest s.data.toList 0 40 7 at_) W0 = 0 := by
      rcases Nat.eq_zero_or_pos (outN (pNest s.data.toList 0 40 7 at_) W0) with h0 | h0
      · exact h0
      · have h1 := (outN_num h0).2 0
        have h2 := good_nest (s := s.data.toList) (lo := 0) (hi := 40) (deep := 7) h.rd.2.1
        rw [h1] at h2
        obtain ⟨_, _, _, _, h3⟩ := h2
        have := h3.2.2 h0
        omega
    refine (block7_of 0 q g s 7 (by omega) (pSt s.data.toList (pBl s.data.toList 0)) (good_stT _ 0) at_ W0 n w h ht _ _ _ rfl rfl rfl (fun hm => by omega) (by rw [hM0]; omega)).mono ?_
    rintro e w' ⟨A, c, x, n', he, hk, hl, h1, h2, hv, hp, hkp⟩
    rw [hM0] at hl h2 hv hp
    have hx : x = [] := List.eq_nil_of_length_eq_zero (by omega)
    subst hx
    obtain rfl : n' = n := by omega
    have hz := rep_zero (pSt s.data.toList (pBl s.data.toList 0)) (outAt (pNest s.data.toList 0 40 7 at_) at_ W0) (outWr (pNest s.data.toList 0 40 7 at_) W0)
    rw [hz.1, hz.2] at hp
    have hm := map_state (pNest s.data.toList 0 40 7 at_) (fun _ => ([] : List St)) at_ W0
    rw [← bl_zero at_] at hm
    rw [← hm.1, ← hm.2] at hp
    refine ⟨A, c, [], n', he, SKids.nil _ _ _ _ _, by simp, Nat.le_refl _, by omega, fun h0 y p hy => ?_, hp, hkp⟩
    rw [bl_zero] at hy
    obtain ⟨m, p1, _, h4⟩ := then_ok hy
    cases h4
    exact Cut.nil _ _
  | succ d ih =>
    intro q g s deep hd at_ W0 n w h ht hn
    have hsane := (good_nest (s := s.data.toList) (lo := 0) (hi := 40) (deep := deep) h.rd.2.1).sane
    have hM40 := nest_le (s := s.data.toList) (lo := 0) (hi := 40) (deep := deep) (at_ := at_) (wr := W0)
    have hB : Bnd (d + 1) = 40 * (1 + 2 * Bnd d) := rfl
    have hmul := Nat.mul_le_mul_right (1 + 2 * Bnd d) hM40
    have hF := fin_rep (f := pSt s.data.toList (pBl s.data.toList d)) (at_ := at_) (W0 := W0) hsane rfl rfl rfl
    have hbl := bl_nest (s := s.data.toList) d at_
    rw [show 6 - d = deep by omega] at hbl
    rw [← hbl] at hF
    refine (block7_of d q g s deep (by omega) (pSt s.data.toList (pBl s.data.toList d)) (good_stT _ d) at_ W0 n w h ht _ _ _ rfl rfl rfl (fun _ a W m W' hp' ht' hm' => stmt7_any d q g s deep (by omega) (fun a2 W2 n2 w2 hp2 ht2 hn2 => ?_) a W m W' hp' ht' hm') (by omega)).mono ?_
    · have := ih q g s (deep + 1) (by omega) a2 W2 n2 w2 hp2 ht2 hn2
      rw [show (((deep + 1 : Nat)) : Int) = (deep : Int) + 1 by omega] at this
      exact this
    · rintro e w' ⟨A, c, x, n', he, hk, hl, h1, h2, hv, hp, hkp⟩
      rw [← hF.1, ← hF.2.1] at hp
      refine ⟨A, c, x, n', he, hk, by omega, h1, by omega, fun h0 y p hy => ?_, hp, hkp⟩
      obtain ⟨g1, g2⟩ := hF.2.2 h0 y p hy
      exact hv g1 y p g2
end Go.Proofs.YtpgkhodofhnpnaaDoor
