/-
  LAYER 7's READER: what a setup is read as (setup). Conditions: as XPh's.
-/
import Derived.Test.YtpgkhodofhnpnaaDoorPl
namespace Go.Proofs.YtpgkhodofhnpnaaDoor
set_option maxRecDepth 100000
open Go.RowKit
set_option linter.unusedVariables false
/-! ### What is read, plain -/
theorem good_wholeT (s : List UInt8) (p : Nat) (hp : p ≤ s.length) : GoodP s p (fun _ _ => True) (pWhole s p) := good_mono (good_whole hp) fun _ _ _ => trivial
theorem good_thT (s : List UInt8) (p : Nat) (hp : p ≤ s.length) : GoodP s p (fun _ _ => True) (pTh s p) := good_mono (good_th p hp) fun _ _ _ => trivial
theorem good_repT {α : Type} {s : List UInt8} {f : Nat → Res α} (hf : ∀ p, p ≤ s.length → GoodP s p (fun _ _ => True) (f p)) : ∀ (k p : Nat), p ≤ s.length → GoodP s p (fun _ _ => True) (pRep f k p) := by
  intro k
  induction k with
  | zero => intro p hp; exact good_ok hp trivial
  | succ k ih => intro p hp; exact good_then (hf p hp) fun x q _ _ hq _ => good_then (ih q hq) fun xs q2 _ _ hq2 _ => good_ok hq2 trivial
/-- The states of a reader that reads a setup, part by part. -/
structure Chain (s : List UInt8) (M1 A1 A2 A3 A4 A5 M6 A6 A7 : Nat) (W1 W2 W3 W4 W5 W6 W7 : Int) : Prop where
  m1 : M1 = outN (pNum s 1 32 0) 0
  a1 : A1 = outAt (pNum s 1 32 0) 0 0
  w1 : W1 = outWr (pNum s 1 32 0) 0
  a2 : A2 = outAt (pRep (pWhole s) M1 A1) A1 W1
  w2 : W2 = outWr (pRep (pWhole s) M1 A1) W1
  a3 : A3 = outAt (pNum s 1 M1 A2) A2 W2
  w3 : W3 = outWr (pNum s 1 M1 A2) W2
  a4 : A4 = outAt (pNum s 0 1099511627776 A3) A3 W3
  w4 : W4 = outWr (pNum s 0 1099511627776 A3) W3
  a5 : A5 = outAt (pNum s 1 1000 A4) A4 W4
  w5 : W5 = outWr (pNum s 1 1000 A4) W4
  m6 : M6 = outN (pNum s 0 6 A5) W5
  a6 : A6 = outAt (pNum s 0 6 A5) A5 W5
  w6 : W6 = outWr (pNum s 0 6 A5) W5
  a7 : A7 = outAt (pRep (pTh s) M6 A6) A6 W6
  w7 : W7 = outWr (pRep (pTh s) M6 A6) W6
theorem out_bad {α : Type} {r : Res α} {p at_ A : Nat} {e W : Int} (h : r = .error (p, e)) (hA : A = outAt r at_ 0) (hW : W = outWr r 0) : A = p ∧ W = e := by
  subst h
  exact ⟨hA, hW⟩
theorem out_fine {α : Type} {r : Res α} {x : α} {p at_ A : Nat} {W : Int} (h : r = .ok (x, p)) (hA : A = outAt r at_ 0) (hW : W = outWr r 0) : A = p ∧ W = 0 := by
  subst h
  exact ⟨hA, hW⟩
theorem Chain.fin {s : List UInt8} {M1 A1 A2 A3 A4 A5 M6 A6 A7 : Nat} {W1 W2 W3 W4 W5 W6 W7 : Int} (h : Chain s M1 A1 A2 A3 A4 A5 M6 A6 A7 W1 W2 W3 W4 W5 W6 W7) :
    outAt (pSu s) 0 0 = A7 ∧ outWr (pSu s) 0 = W7 ∧ ∀ y p, pSu s = .ok (y, p) → (W1 = 0 ∧ pRep (pWhole s) M1 A1 = .ok (y.init, A2)) ∧ y.st = outN (pNum s 1 M1 A2) W2 ∧ y.cl = outN (pNum s 0 1099511627776 A3) W3 ∧ y.tr = outN (pNum s 1 1000 A4) W4 ∧ (W6 = 0 ∧ pRep (pTh s) M6 A6 = .ok (y.thr, A7)) := by
  obtain ⟨m1, a1, w1, a2, w2, a3, w3, a4, w4, a5, w5, m6, a6, w6, a7, w7⟩ := h
  match h1 : pNum s 1 32 0 with
  | .error (p, e) =>
    have he : e ≠ 0 := (good_num (s := s) (lo := 1) (hi := 32) (at_ := 0) (by omega)).sane p e h1
    obtain ⟨rfl, rfl⟩ := out_bad h1 a1 w1
    have hs : pSu s = .error (A1, W1) := by unfold pSu; rw [h1]; rfl
    rw [outAt_w he] at a2; rw [outWr_w he] at w2; subst a2 w2
    rw [outAt_w he] at a3; rw [outWr_w he] at w3; subst a3 w3
    rw [outAt_w he] at a4; rw [outWr_w he] at w4; subst a4 w4
    rw [outAt_w he] at a5; rw [outWr_w he] at w5; subst a5 w5
    rw [outAt_w he] at a6; rw [outWr_w he] at w6; subst a6 w6
    rw [outAt_w he] at a7; rw [outWr_w he] at w7; subst a7 w7
    rw [hs]
    exact ⟨rfl, rfl, fun y p hc => by cases hc⟩
  | .ok (v, p1) =>
    have hp1 : p1 ≤ s.length := (good_num (s := s) (lo := 1) (hi := 32) (at_ := 0) (by omega)).in_ h1
    obtain ⟨rfl, rfl⟩ := out_fine h1 a1 w1
    obtain rfl : M1 = v := by rw [m1, h1]; rfl
    match h2 : pRep (pWhole s) M1 A1 with
    | .error (p, e) =>
      have he : e ≠ 0 := (good_repT (good_wholeT s) M1 A1 hp1).sane p e h2
      obtain ⟨rfl, rfl⟩ := out_bad h2 a2 w2
      have hs : pSu s = .error (A2, W2) := by unfold pSu; rw [h1, ok_then, h2]; rfl
      rw [outAt_w he] at a3; rw [outWr_w he] at w3; subst a3 w3
      rw [outAt_w he] at a4; rw [outWr_w he] at w4; subst a4 w4
      rw [outAt_w he] at a5; rw [outWr_w he] at w5; subst a5 w5
      rw [outAt_w he] at a6; rw [outWr_w he] at w6; subst a6 w6
      rw [outAt_w he] at a7; rw [outWr_w he] at w7; subst a7 w7
      rw [hs]
      exact ⟨rfl, rfl, fun y p hc => by cases hc⟩
    | .ok (ini, p2) =>
      have hp2 : p2 ≤ s.length := (good_repT (good_wholeT s) M1 A1 hp1).in_ h2
      obtain ⟨rfl, rfl⟩ := out_fine h2 a2 w2
      match h3 : pNum s 1 M1 A2 with
      | .error (p, e) =>
        have he : e ≠ 0 := (good_num (s := s) (lo := 1) (hi := M1) hp2).sane p e h3
        obtain ⟨rfl, rfl⟩ := out_bad h3 a3 w3
        have hs : pSu s = .error (A3, W3) := by unfold pSu; rw [h1, ok_then, h2, ok_then, h3]; rfl
        rw [outAt_w he] at a4; rw [outWr_w he] at w4; subst a4 w4
        rw [outAt_w he] at a5; rw [outWr_w he] at w5; subst a5 w5
        rw [outAt_w he] at a6; rw [outWr_w he] at w6; subst a6 w6
        rw [outAt_w he] at a7; rw [outWr_w he] at w7; subst a7 w7
        rw [hs]
        exact ⟨rfl, rfl, fun y p hc => by cases hc⟩
      | .ok (st, p3) =>
        have hp3 : p3 ≤ s.length := (good_num (s := s) (lo := 1) (hi := M1) hp2).in_ h3
        obtain ⟨rfl, rfl⟩ := out_fine h3 a3 w3
        match h4 : pNum s 0 1099511627776 A3 with
        | .error (p, e) =>
          have he : e ≠ 0 := (good_num (s := s) (lo := 0) (hi := 1099511627776) hp3).sane p e h4
          obtain ⟨rfl, rfl⟩ := out_bad h4 a4 w4
          have hs : pSu s = .error (A4, W4) := by unfold pSu; rw [h1, ok_then, h2, ok_then, h3, ok_then, h4]; rfl
          rw [outAt_w he] at a5; rw [outWr_w he] at w5; subst a5 w5
          rw [outAt_w he] at a6; rw [outWr_w he] at w6; subst a6 w6
          rw [outAt_w he] at a7; rw [outWr_w he] at w7; subst a7 w7
          rw [hs]
          exact ⟨rfl, rfl, fun y p hc => by cases hc⟩
        | .ok (cl, p4) =>
          have hp4 : p4 ≤ s.length := (good_num (s := s) (lo := 0) (hi := 1099511627776) hp3).in_ h4
          obtain ⟨rfl, rfl⟩ := out_fine h4 a4 w4
          match h5 : pNum s 1 1000 A4 with
          | .error (p, e) =>
            have he : e ≠ 0 := (good_num (s := s) (lo := 1) (hi := 1000) hp4).sane p e h5
            obtain ⟨rfl, rfl⟩ := out_bad h5 a5 w5
            have hs : pSu s = .error (A5, W5) := by unfold pSu; rw [h1, ok_then, h2, ok_then, h3, ok_then, h4, ok_then, h5]; rfl
            rw [outAt_w he] at a6; rw [outWr_w he] at w6; subst a6 w6
            rw [outAt_w he] at a7; rw [outWr_w he] at w7; subst a7 w7
            rw [hs]
            exact ⟨rfl, rfl, fun y p hc => by cases hc⟩
          | .ok (tr, p5) =>
            have hp5 : p5 ≤ s.length := (good_num (s := s) (lo := 1) (hi := 1000) hp4).in_ h5
            obtain ⟨rfl, rfl⟩ := out_fine h5 a5 w5
            match h6 : pNum s 0 6 A5 with
            | .error (p, e) =>
              have he : e ≠ 0 := (good_num (s := s) (lo := 0) (hi := 6) hp5).sane p e h6
              obtain ⟨rfl, rfl⟩ := out_bad h6 a6 w6
              have hs : pSu s = .error (A6, W6) := by unfold pSu; rw [h1, ok_then, h2, ok_then, h3, ok_then, h4, ok_then, h5, ok_then, h6]; rfl
              rw [outAt_w he] at a7; rw [outWr_w he] at w7; subst a7 w7
              rw [hs]
              exact ⟨rfl, rfl, fun y p hc => by cases hc⟩
            | .ok (m, p6) =>
              have hp6 : p6 ≤ s.length := (good_num (s := s) (lo := 0) (hi := 6) hp5).in_ h6
              obtain ⟨rfl, rfl⟩ := out_fine h6 a6 w6
              obtain rfl : M6 = m := by rw [m6, h6]; rfl
              match h7 : pRep (pTh s) M6 A6 with
              | .error (p, e) =>
                have he : e ≠ 0 := (good_repT (good_thT s) M6 A6 hp6).sane p e h7
                obtain ⟨rfl, rfl⟩ := out_bad h7 a7 w7
                have hs : pSu s = .error (A7, W7) := by unfold pSu; rw [h1, ok_then, h2, ok_then, h3, ok_then, h4, ok_then, h5, ok_then, h6, ok_then, h7]; rfl
                rw [hs]
                exact ⟨rfl, rfl, fun y p hc => by cases hc⟩
              | .ok (thr, p7) =>
                obtain ⟨rfl, rfl⟩ := out_fine h7 a7 w7
                have hs : pSu s = .ok (⟨st, cl, tr, ini, thr⟩, A7) := by unfold pSu; rw [h1, ok_then, h2, ok_then, h3, ok_then, h4, ok_then, h5, ok_then, h6, ok_then, h7]; rfl
                rw [hs]
                refine ⟨rfl, rfl, fun y p hc => ?_⟩
                cases hc
                exact ⟨⟨rfl, rfl⟩, rfl, rfl, rfl, ⟨rfl, rfl⟩⟩
end Go.Proofs.YtpgkhodofhnpnaaDoor
