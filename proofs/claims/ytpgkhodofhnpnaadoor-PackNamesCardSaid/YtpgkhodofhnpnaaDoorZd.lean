/-
  SEVERAL TEXTS IN ONE (a claim has sixty files at most): Ds, Cs, Cu, Us: the head of each stands ahead of it. No condition but theirs.
-/
import Derived.Test.YtpgkhodofhnpnaaDoorZb
import Derived.Test.YtpgkhodofhnpnaaDoorCm
import Derived.Test.YtpgkhodofhnpnaaDoorUm
import Derived.Test.YtpgkhodofhnpnaaDoorZc
import Derived.Deep.DeepCutAuto
import Derived.Deep.CutBlock
/-
  CONTRACTS OF PACKAGE expr's Same, and of slices.EqualFunc as it calls it: whether two trees in memory are the same; the memory that was there stays as it was. No condition.
-/
namespace Go.Proofs.YtpgkhodofhnpnaaDoor
set_option maxRecDepth 100000
open Go.RowKit
set_option linter.unusedVariables false
end Go.Proofs.YtpgkhodofhnpnaaDoor
/-
  CONTRACTS OF PACKAGE code's Same and same, and of slices.EqualFunc as Same calls it: whether two transactions in memory are the same; the memory that was there stays as it was. Conditions: as they stand.
-/
namespace Go.Proofs.YtpgkhodofhnpnaaDoor
set_option maxRecDepth 100000
open Go.RowKit
set_option linter.unusedVariables false
end Go.Proofs.YtpgkhodofhnpnaaDoor
/-
  CONTRACT OF PACKAGE code's same, and so of Same: whether two statements, two transactions in memory are the same; the memory that was there stays as it was. Conditions: as they stand.
-/
namespace Go.Proofs.YtpgkhodofhnpnaaDoor
set_option maxRecDepth 100000
open Go.RowKit
set_option linter.unusedVariables false
end Go.Proofs.YtpgkhodofhnpnaaDoor
/-
  CONTRACTS OF LAYER 6: Same of package setup, and of slices' Equal and EqualFunc as it calls them; the memory that was there stays as it was. Conditions: as they stand.
-/
namespace Go.Proofs.YtpgkhodofhnpnaaDoor
set_option maxRecDepth 100000
open Go.RowKit
set_option linter.unusedVariables false
def sameG {α : Type} (f : α → α → Bool) : List α → List α → Bool
  | [], [] => true
  | a :: r, b :: s => f a b && sameG f r s
  | _, _ => false
theorem sameG_len {α : Type} (f : α → α → Bool) : ∀ (a b : List α), a.length ≠ b.length → sameG f a b = false := by
  intro a
  induction a with
  | nil => intro b h; cases b with
    | nil => exact absurd rfl h
    | cons _ _ => rfl
  | cons x a ih => intro b h; cases b with
    | nil => rfl
    | cons y b => rw [sameG, ih b (by simpa using h), Bool.and_false]
theorem sameG_drop {α : Type} (f : α → α → Bool) (a b : List α) (k : Nat) (ha : k < a.length) (hb : k < b.length) : sameG f (a.drop k) (b.drop k) = (f a[k] b[k] && sameG f (a.drop (k + 1)) (b.drop (k + 1))) := by
  rw [List.drop_eq_getElem_cons ha, List.drop_eq_getElem_cons hb]
  rfl
def sameX (d : Nat) : List St → List St → Bool := sameSL (sameS d)
def sameT (d : Nat) : List (List St) → List (List St) → Bool := sameG (sameX d)
def sameA (d : Nat) : List (List (List St)) → List (List (List St)) → Bool := sameG (sameT d)
def sameU (d : Nat) (s t : Su) : Bool := decide (s.st = t.st) && (decide (s.cl = t.cl) && (decide (s.tr = t.tr) && (decide (s.init = t.init) && sameA d s.thr t.thr)))
end Go.Proofs.YtpgkhodofhnpnaaDoor
