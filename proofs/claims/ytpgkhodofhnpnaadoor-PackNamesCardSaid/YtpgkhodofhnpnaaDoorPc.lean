/-
  LAYER 7's READER, PLAIN: where a reader is behind parts that are read one behind the other, and what is told then (over XPa's parser). No condition.
-/
import Derived.Test.YtpgkhodofhnpnaaDoorPb
import Derived.Test.YtpgkhodofhnpnaaDoorUm
namespace Go.Proofs.YtpgkhodofhnpnaaDoor
set_option maxRecDepth 100000
open Go.RowKit
set_option linter.unusedVariables false
theorem PR.below {w w' : World} {q g : Nat} {s : ByteArray} {a : Nat} {wr : Int} {n : Nat} (h : PR w q g s a wr n) (hb : Below w.heap.size w w') : PR w' q g s a wr n := ⟨h.obj.below hb h.obj.lt, rd_more h.rd hb⟩
theorem num_ok {s : List UInt8} {lo hi at_ n p : Nat} (h : pNum s lo hi at_ = .ok (n, p)) : lo ≤ n ∧ n ≤ hi ∧ at_ ≤ p := by
  unfold pNum at h
  split at h
  · cases h
  · split at h
    · cases h
    · cases h
      omega
theorem num_le {s : List UInt8} {lo hi at_ : Nat} {wr : Int} : outN (pNum s lo hi at_) wr ≤ hi := by
  unfold outN
  by_cases hw : wr = 0
  · rw [if_pos hw]
    match hr : pNum s lo hi at_ with
    | .error e => exact Nat.zero_le _
    | .ok (n, p) => exact (num_ok hr).2.1
  · rw [if_neg hw]
    omega
theorem nest_le {s : List UInt8} {lo hi deep at_ : Nat} {wr : Int} : outN (pNest s lo hi deep at_) wr ≤ hi := by
  by_cases h : 0 < outN (pNum s lo hi at_) wr ∧ 6 < deep
  · rw [(nest_deep h.1 h.2).2.1]; omega
  · rw [(nest_out h).1]; exact num_le
/-- Errors are told as such. -/
def Sane {α : Type} (r : Res α) : Prop := ∀ p e, r = .error (p, e) → e ≠ 0
theorem GoodP.sane {α : Type} {s : List UInt8} {at_ : Nat} {P : α → List UInt8 → Prop} {r : Res α} (h : GoodP s at_ P r) : Sane r := by
  rintro p e rfl
  exact h.2.1
theorem GoodP.in_ {α : Type} {s : List UInt8} {at_ : Nat} {P : α → List UInt8 → Prop} {r : Res α} (h : GoodP s at_ P r) {x : α} {p : Nat} (hr : r = .ok (x, p)) : p ≤ s.length := by
  subst hr
  exact h.2.1
/-- Behind two parts the reader is where the second one leaves it. -/
theorem then_state {α β γ : Type} {r1 : Res α} (hs : Sane r1) (k : α → Nat → Res β) (K : Nat → Res γ) (at_ : Nat) (wr : Int)
    (hk : ∀ x p, wr = 0 → r1 = .ok (x, p) → outAt (k x p) p 0 = outAt (K p) p 0 ∧ outWr (k x p) 0 = outWr (K p) 0) :
    outAt (andThen r1 k) at_ wr = outAt (K (outAt r1 at_ wr)) (outAt r1 at_ wr) (outWr r1 wr) ∧ outWr (andThen r1 k) wr = outWr (K (outAt r1 at_ wr)) (outWr r1 wr) := by
  by_cases hw : wr = 0
  · subst hw
    match r1, hs, hk with
    | .error (p, e), hs, _ =>
      have he := hs p e rfl
      have a1 : outAt (Except.error (p, e) : Res α) at_ 0 = p := rfl
      have a2 : outWr (Except.error (p, e) : Res α) 0 = e := rfl
      rw [a1, a2, outAt_w he, outWr_w he]
      exact ⟨rfl, rfl⟩
    | .ok (x, p), _, hk =>
      have a1 : outAt (Except.ok (x, p) : Res α) at_ 0 = p := rfl
      have a2 : outWr (Except.ok (x, p) : Res α) 0 = 0 := rfl
      rw [a1, a2]
      obtain ⟨h1, h2⟩ := hk x p rfl rfl
      exact ⟨h1, h2⟩
  · rw [outAt_w hw, outWr_w hw, outAt_w hw, outWr_w hw, outAt_w hw, outWr_w hw]
    exact ⟨rfl, rfl⟩
theorem map_state {α β : Type} (r : Res α) (f : α → β) (at_ : Nat) (wr : Int) : outAt (andThen r fun x p => (.ok (f x, p) : Res β)) at_ wr = outAt r at_ wr ∧ outWr (andThen r fun x p => (.ok (f x, p) : Res β)) wr = outWr r wr := by
  unfold outAt outWr
  by_cases hw : wr = 0
  · simp only [if_pos hw]
    match r with
    | .error e => exact ⟨rfl, rfl⟩
    | .ok (x, p) => exact ⟨rfl, rfl⟩
  · simp only [if_neg hw]
    exact ⟨trivial, trivial⟩
theorem andThen_assoc {α β γ : Type} (r : Res α) (k : α → Nat → Res β) (l : β → Nat → Res γ) : andThen (andThen r k) l = andThen r fun x p => andThen (k x p) l := by
  match r with
  | .error e => rfl
  | .ok (x, p) => rfl
theorem then_ok {α β : Type} {r : Res α} {k : α → Nat → Res β} {y : β} {p : Nat} (h : andThen r k = .ok (y, p)) : ∃ x p1, r = .ok (x, p1) ∧ k x p1 = .ok (y, p) := by
  match r, h with
  | .error e, h => cases h
  | .ok (x, p1), h => exact ⟨x, p1, rfl, h⟩
theorem rep_snoc {α : Type} (f : Nat → Res α) : ∀ (i p : Nat), pRep f (i + 1) p = andThen (pRep f i p) fun xs q => andThen (f q) fun x q2 => .ok (xs ++ [x], q2) := by
  intro i
  induction i with
  | zero =>
    intro p
    show andThen (f p) (fun x q => andThen (pRep f 0 q) fun xs q2 => .ok (x :: xs, q2)) = andThen (f p) fun x q2 => .ok ([x], q2)
    rfl
  | succ i ih =>
    intro p
    rw [pRep]
    have : (fun x q => andThen (pRep f (i + 1) q) fun xs q2 => (.ok (x :: xs, q2) : Res (List α))) = fun x q => andThen (pRep f i q) fun xs q2 => andThen (f q2) fun y q3 => .ok (x :: (xs ++ [y]), q3) := by
      funext x q
      rw [ih, andThen_assoc]
      congr 1
      funext xs q2
      rw [andThen_assoc]
      rfl
    rw [this, pRep, andThen_assoc]
    congr 1
    funext x q
    rw [andThen_assoc]
    rfl
/-- Behind one element more. -/
theorem rep_state {α : Type} {f : Nat → Res α} {i p0 : Nat} (hs : Sane (pRep f i p0)) (wr : Int) :
    outAt (pRep f (i + 1) p0) p0 wr = outAt (f (outAt (pRep f i p0) p0 wr)) (outAt (pRep f i p0) p0 wr) (outWr (pRep f i p0) wr) ∧ outWr (pRep f (i + 1) p0) wr = outWr (f (outAt (pRep f i p0) p0 wr)) (outWr (pRep f i p0) wr) := by
  rw [rep_snoc]
  exact then_state hs _ f p0 wr fun xs p _ _ => map_state (f p) (fun x => xs ++ [x]) p 0
theorem rep_zero {α : Type} (f : Nat → Res α) (p0 : Nat) (wr : Int) : outAt (pRep f 0 p0) p0 wr = p0 ∧ outWr (pRep f 0 p0) wr = wr := by
  unfold outAt outWr
  by_cases hw : wr = 0
  · rw [if_pos hw, if_pos hw]
    exact ⟨rfl, hw.symm⟩
  · rw [if_neg hw, if_neg hw]
    exact ⟨rfl, rfl⟩
theorem ok_state {α : Type} {r : Res α} {x : α} {p : Nat} (h : r = .ok (x, p)) (at_ : Nat) : outAt r at_ 0 = p ∧ outWr r 0 = 0 := by
  subst h
  exact ⟨rfl, rfl⟩
theorem wr_zero {α : Type} {r : Res α} {wr : Int} (hs : Sane r) (h : outWr r wr = 0) : wr = 0 ∧ ∃ x, ∀ at_, r = .ok (x, outAt r at_ wr) := by
  by_cases hw : wr = 0
  · subst hw
    refine ⟨rfl, ?_⟩
    match r, hs, h with
    | .error (p, e), hs, h => exact absurd h (hs p e rfl)
    | .ok (x, p), _, _ => exact ⟨x, fun _ => rfl⟩
  · rw [outWr_w hw] at h
    exact absurd h hw
/-! ### Expressions -/
theorem nest_one {s : List UInt8} {hi deep at_ n p : Nat} (h : pNest s 1 hi deep at_ = .ok (n, p)) : 1 ≤ n := by
  obtain ⟨x, p1, h1, h2⟩ := then_ok h
  have := (num_ok h1).1
  split at h2
  · cases h2
  · cases h2
    exact this
theorem good_nest {s : List UInt8} {lo hi deep at_ : Nat} (ha : at_ ≤ s.length) : GoodP s at_ (fun n bs => lo ≤ n ∧ n ≤ hi ∧ (0 < n → deep ≤ 6)) (pNest s lo hi deep at_) :=
  good_then (good_num ha) fun n p bs h1 hp h => by
    split
    · exact good_err ha (by decide) (by decide)
    · next h6 => exact good_ok hp ⟨h.1, h.2.1, fun h0 => by omega⟩
theorem ex_nest {s : List UInt8} (d at_ : Nat) : pEx s (d + 1) at_ = andThen (pNest s 1 8 (6 - d) at_) fun op p =>
    if op = 1 then andThen (pWhole s p) fun n q => .ok (.node op n [], q)
    else if op = 2 then andThen (pNum s 0 7 p) fun n q => .ok (.node op n [], q)
    else if op = 3 then andThen (pNum s 0 5 p) fun n q => .ok (.node op n [], q)
    else andThen (pEx s d p) fun a q => andThen (pEx s d q) fun b q2 => .ok (.node op 0 [a, b], q2) := by
  rw [pEx, pNest, andThen_assoc]
  congr 1
  funext n p
  have h : ¬ (0 < n ∧ 6 < 6 - d) := by omega
  simp only [if_neg h]
  rfl
theorem ex_zero {s : List UInt8} (at_ : Nat) (wr : Int) : outAt (pEx s 0 at_) at_ wr = outAt (pNest s 1 8 7 at_) at_ wr ∧ outWr (pEx s 0 at_) wr = outWr (pNest s 1 8 7 at_) wr ∧ outN (pNest s 1 8 7 at_) wr = 0 ∧ ∀ y p, pEx s 0 at_ ≠ .ok (y, p) := by
  have h : pEx s 0 at_ = andThen (pNest s 1 8 7 at_) fun _ _ => .error (at_, 40) := by
    rw [pEx, pNest, andThen_assoc]
    unfold andThen
    match hr : pNum s 1 8 at_ with
    | .error e => rfl
    | .ok (n, p) =>
      have := (num_ok hr).1
      dsimp only
      rw [if_pos (by omega)]
  have hn : ∀ y p, pNest s 1 8 7 at_ ≠ .ok (y, p) := fun y p hc => by
    obtain ⟨x, p1, h1, h2⟩ := then_ok hc
    have := (num_ok h1).1
    rw [if_pos (by omega)] at h2
    cases h2
  refine ⟨?_, ?_, ?_, ?_⟩
  · rw [h]
    unfold outAt
    match hr : pNest s 1 8 7 at_ with
    | .error e => rfl
    | .ok (n, p) => exact absurd hr (hn n p)
  · rw [h]
    unfold outWr
    match hr : pNest s 1 8 7 at_ with
    | .error e => rfl
    | .ok (n, p) => exact absurd hr (hn n p)
  · unfold outN
    split
    · match hr : pNest s 1 8 7 at_ with
      | .error e => rfl
      | .ok (n, p) => exact absurd hr (hn n p)
    · rfl
  · intro y p hc
    rw [h] at hc
    obtain ⟨x, p1, h1, h2⟩ := then_ok hc
    cases h2
theorem outN_num {r : Res Nat} {wr : Int} (h : 0 < outN r wr) : wr = 0 ∧ ∀ at_, r = .ok (outN r wr, outAt r at_ wr) := by
  unfold outN outAt at *
  by_cases hw : wr = 0
  · rw [if_pos hw] at h ⊢
    simp only [if_pos hw]
    refine ⟨hw, fun at_ => ?_⟩
    match r, h with
    | .error e, h => exact absurd h (by simp)
    | .ok (n, p), h => rfl
  · rw [if_neg hw] at h
    omega
theorem outN_zero {s : List UInt8} {hi deep at_ : Nat} {wr : Int} (hs : Sane (pNest s 1 hi deep at_)) (h : outN (pNest s 1 hi deep at_) wr = 0) : outWr (pNest s 1 hi deep at_) wr ≠ 0 := by
  intro hc
  obtain ⟨rfl, x, hx⟩ := wr_zero hs hc
  have h2 := hx at_
  have := nest_one h2
  rw [h2] at h
  have : x = 0 := h
  omega
end Go.Proofs.YtpgkhodofhnpnaaDoor
