/-
  PLAIN: events as numbers; what each Kind has; whether an event may be, its text, the event of a text, as package event goes about it; and what follows: an event that may be is read out of its text. No program here.
-/
import Derived.PlainAid
namespace Go.Proofs.YtkfcglgikemefaaDoor
set_option maxRecDepth 100000
set_option linter.unusedVariables false
structure Ev where
  kd : Int
  th : Int
  tx : Int
  pl : Int
  v : Int
  x : Int
  why : Int
deriving DecidableEq
structure Part where
  wh : Fin 5
  lo : Int
  hi : Int
/-- One number of a row turned. -/
def put5 (c : Nat → Int) (k : Nat) (y : Int) : Nat → Int := fun i => if i = k then y else c i
theorem put5_same (c : Nat → Int) (k : Nat) (y : Int) : put5 c k y k = y := by simp [put5]
theorem put5_other {c : Nat → Int} {k i : Nat} {y : Int} (h : i ≠ k) : put5 c k y i = c i := by simp [put5, h]
/-- An event's numbers besides Kind and Thread. -/
def numC (e : Ev) : Nat → Int := fun i => if i = 0 then e.tx else if i = 1 then e.pl else if i = 2 then e.v else if i = 3 then e.x else if i = 4 then e.why else 0
def zeroC : Nat → Int := fun _ => 0
def ev0 : Ev := ⟨0, 0, 0, 0, 0, 0, 0⟩
/-- What a Kind has. -/
def partsK (kd : Nat) (va st : Int) : List Part :=
  match kd with
  | 1 => [⟨0, 0, 5⟩, ⟨2, 0, 1099511627776⟩]
  | 2 => [⟨1, 0, st - 1⟩, ⟨2, 0, 1099511627776⟩]
  | 3 => [⟨1, 0, va - 1⟩, ⟨3, -9223372036854775808, 9223372036854775807⟩]
  | 4 => [⟨1, 0, st - 1⟩]
  | 5 => [⟨2, 1, 1099511627776⟩]
  | 6 => [⟨1, 0, st - 1⟩]
  | 7 => [⟨2, 0, 1099511627776⟩]
  | 8 => [⟨1, 0, va - 1⟩, ⟨3, -9223372036854775808, 9223372036854775807⟩]
  | 9 => [⟨1, 0, st - 1⟩]
  | 10 => [⟨4, 1, 6⟩, ⟨1, 0, st - 1⟩]
  | 11 => [⟨1, 0, st - 1⟩]
  | _ => []
def inP (p : Part) (y : Int) : Bool := decide (p.lo ≤ y) && decide (y ≤ p.hi)
/-- What is left of the numbers, if those that the Kind has are within their bounds. -/
def scanP : List Part → (Nat → Int) → Option (Nat → Int)
  | [], c => some c
  | p :: r, c => if inP p (c p.wh) then scanP r (put5 c p.wh 0) else none
theorem scanP_snoc (l : List Part) (p : Part) (c : Nat → Int) : scanP (l ++ [p]) c = match scanP l c with
    | some d => if inP p (d p.wh) then some (put5 d p.wh 0) else none
    | none => none := by
  induction l generalizing c with
  | nil => simp [scanP]
  | cons q r ih =>
    simp only [List.cons_append, scanP]
    split
    · exact ih _
    · rfl
theorem scanP_pre {l : List Part} {c : Nat → Int} (h : scanP l c = none) (r : List Part) : scanP (l ++ r) c = none := by
  induction l generalizing c with
  | nil => simp [scanP] at h
  | cons q t ih =>
    simp only [List.cons_append, scanP] at h ⊢
    split
    · rw [if_pos (by assumption)] at h
      exact ih h
    · rfl
def zeroB (c : Nat → Int) : Bool := c 0 == 0 && c 1 == 0 && c 2 == 0 && c 3 == 0 && c 4 == 0
def zeroO : Option (Nat → Int) → Bool
  | none => false
  | some c => zeroB c
def sizesB (T V S : Int) : Bool := (decide (1 ≤ T) && decide (T ≤ 6)) && (decide (1 ≤ V) && decide (V ≤ 32)) && (decide (1 ≤ S) && decide (S ≤ V))
def fullB (kd why : Int) : Bool := kd == 10 && why == 6
/-- Whether an event may be. -/
def mayB (e : Ev) (T V S : Int) : Bool := sizesB T V S && (decide (0 ≤ e.th) && decide (e.th ≤ T - 1)) && (decide (1 ≤ e.kd) && decide (e.kd ≤ 13)) && !(fullB e.kd e.why && e.pl != 0) && zeroO (scanP (partsK e.kd.toNat V S) (numC e))
/-- Kind by Kind. -/
def MayK (e : Ev) (V S : Int) : Prop :=
  (e.kd = 1 ∧ (0 ≤ e.tx ∧ e.tx ≤ 5) ∧ e.pl = 0 ∧ (0 ≤ e.v ∧ e.v ≤ 1099511627776) ∧ e.x = 0 ∧ e.why = 0) ∨
  (e.kd = 2 ∧ e.tx = 0 ∧ (0 ≤ e.pl ∧ e.pl ≤ S - 1) ∧ (0 ≤ e.v ∧ e.v ≤ 1099511627776) ∧ e.x = 0 ∧ e.why = 0) ∨
  ((e.kd = 3 ∨ e.kd = 8) ∧ e.tx = 0 ∧ (0 ≤ e.pl ∧ e.pl ≤ V - 1) ∧ e.v = 0 ∧ (-9223372036854775808 ≤ e.x ∧ e.x ≤ 9223372036854775807) ∧ e.why = 0) ∨
  ((e.kd = 4 ∨ e.kd = 6 ∨ e.kd = 9 ∨ e.kd = 11) ∧ e.tx = 0 ∧ (0 ≤ e.pl ∧ e.pl ≤ S - 1) ∧ e.v = 0 ∧ e.x = 0 ∧ e.why = 0) ∨
  (e.kd = 5 ∧ e.tx = 0 ∧ e.pl = 0 ∧ (1 ≤ e.v ∧ e.v ≤ 1099511627776) ∧ e.x = 0 ∧ e.why = 0) ∨
  (e.kd = 7 ∧ e.tx = 0 ∧ e.pl = 0 ∧ (0 ≤ e.v ∧ e.v ≤ 1099511627776) ∧ e.x = 0 ∧ e.why = 0) ∨
  (e.kd = 10 ∧ e.tx = 0 ∧ (0 ≤ e.pl ∧ e.pl ≤ S - 1) ∧ e.v = 0 ∧ e.x = 0 ∧ (1 ≤ e.why ∧ e.why ≤ 6) ∧ (e.why = 6 → e.pl = 0)) ∨
  ((e.kd = 12 ∨ e.kd = 13) ∧ e.tx = 0 ∧ e.pl = 0 ∧ e.v = 0 ∧ e.x = 0 ∧ e.why = 0)
theorem zeroO_some (a : Nat → Int) : zeroO (some a) = zeroB a := rfl
theorem if_some {p : Prop} [Decidable p] {a : Nat → Int} : zeroO (if p then some a else none) = (decide p && zeroB a) := by
  by_cases h : p <;> simp [h, zeroO]
theorem if_if {p q : Prop} [Decidable p] [Decidable q] {a : Nat → Int} : zeroO (if p then (if q then some a else none) else none) = (decide p && (decide q && zeroB a)) := by
  by_cases h : p <;> by_cases h2 : q <;> simp [h, h2, zeroO]
theorem may_iff (e : Ev) (T V S : Int) : mayB e T V S = true ↔ (sizesB T V S = true ∧ (0 ≤ e.th ∧ e.th ≤ T - 1) ∧ MayK e V S) := by
  obtain ⟨kd, th, tx, pl, v, x, why⟩ := e
  by_cases hk : 1 ≤ kd ∧ kd ≤ 13
  · obtain ⟨k, rfl⟩ : ∃ k : Nat, kd = k := ⟨kd.toNat, by omega⟩
    have : k = 1 ∨ k = 2 ∨ k = 3 ∨ k = 4 ∨ k = 5 ∨ k = 6 ∨ k = 7 ∨ k = 8 ∨ k = 9 ∨ k = 10 ∨ k = 11 ∨ k = 12 ∨ k = 13 := by omega
    rcases this with rfl | rfl | rfl | rfl | rfl | rfl | rfl | rfl | rfl | rfl | rfl | rfl | rfl <;>
      simp [mayB, MayK, fullB, partsK, scanP, numC, put5, if_some, if_if, zeroO_some, zeroB, inP, and_assoc] <;> (intros; omega)
  · have h2 : ¬ MayK ⟨kd, th, tx, pl, v, x, why⟩ V S := by
      unfold MayK
      simp only
      omega
    have h3 : mayB ⟨kd, th, tx, pl, v, x, why⟩ T V S = false := by
      have : (decide (1 ≤ kd) && decide (kd ≤ 13)) = false := by
        by_cases a : 1 ≤ kd
        · have : ¬ kd ≤ 13 := fun b => hk ⟨a, b⟩
          simp [this]
        · simp [a]
      simp [mayB, this]
    simp [h2, h3]
end Go.Proofs.YtkfcglgikemefaaDoor
