/-
  SETUPS (layer 6), PLAIN: a setup as a thing; where its threads, transactions and values lie in memory (between two blocks). No condition.
-/
import Derived.Test.YtpgkhodofhnpnaaDoorCm
namespace Go.Proofs.YtpgkhodofhnpnaaDoor
set_option maxRecDepth 100000
open Go.RowKit
set_option linter.unusedVariables false
/-- A setup. -/
structure Su where
  (st cl tr : Int) (init : List Int) (thr : List (List (List St)))
/-- Where a thread's transactions lie. -/
def Txs (w : World) (lo hi d : Nat) (A : Option Addr) (l : List (List St)) : Prop := ∀ k (h : k < l.length), ∃ p B c, A = some p ∧ lo ≤ p.block ∧ p.block < hi ∧ w.cell? (p.add k) = some (.slice B l[k].length c) ∧ l[k].length ≤ 9223372036854775807 ∧ SKids w lo hi d B l[k]
/-- Where the threads lie. -/
def Thr (w : World) (lo hi d : Nat) (A : Option Addr) (l : List (List (List St))) : Prop := ∀ k (h : k < l.length), ∃ p B c, A = some p ∧ lo ≤ p.block ∧ p.block < hi ∧ w.cell? (p.add k) = some (.slice B l[k].length c) ∧ l[k].length ≤ 9223372036854775807 ∧ Txs w lo hi d B l[k]
theorem Txs.below {w w' : World} {lo hi B d : Nat} {A : Option Addr} {l : List (List St)} (h : Txs w lo hi d A l) (hb : Below B w w') (hB : hi ≤ B) : Txs w' lo hi d A l := fun k hk => by
  obtain ⟨p, b, c, e1, m1, m2, t1, l1, s1⟩ := h k hk
  exact ⟨p, b, c, e1, m1, m2, (hb.cell (by rw [ad_block]; omega)).trans t1, l1, s1.below hb hB⟩
theorem Thr.below {w w' : World} {lo hi B d : Nat} {A : Option Addr} {l : List (List (List St))} (h : Thr w lo hi d A l) (hb : Below B w w') (hB : hi ≤ B) : Thr w' lo hi d A l := fun k hk => by
  obtain ⟨p, b, c, e1, m1, m2, t1, l1, s1⟩ := h k hk
  exact ⟨p, b, c, e1, m1, m2, (hb.cell (by rw [ad_block]; omega)).trans t1, l1, s1.below hb hB⟩
theorem Txs.wide {w : World} {lo hi lo' hi' d : Nat} {A : Option Addr} {l : List (List St)} (h : Txs w lo hi d A l) (hl : lo' ≤ lo) (hh : hi ≤ hi') : Txs w lo' hi' d A l := fun k hk => by
  obtain ⟨p, b, c, e1, m1, m2, t1, l1, s1⟩ := h k hk
  exact ⟨p, b, c, e1, by omega, by omega, t1, l1, s1.wide hl hh⟩
theorem Thr.wide {w : World} {lo hi lo' hi' d : Nat} {A : Option Addr} {l : List (List (List St))} (h : Thr w lo hi d A l) (hl : lo' ≤ lo) (hh : hi ≤ hi') : Thr w lo' hi' d A l := fun k hk => by
  obtain ⟨p, b, c, e1, m1, m2, t1, l1, s1⟩ := h k hk
  exact ⟨p, b, c, e1, by omega, by omega, t1, l1, s1.wide hl hh⟩
theorem Txs.more {w : World} {lo hi d d' : Nat} {A : Option Addr} {l : List (List St)} (h : Txs w lo hi d A l) (hd : d ≤ d') : Txs w lo hi d' A l := fun k hk => by
  obtain ⟨p, b, c, e1, m1, m2, t1, l1, s1⟩ := h k hk
  exact ⟨p, b, c, e1, m1, m2, t1, l1, s1.more hd⟩
/-- The value v is the setup s. -/
structure SuAt (w : World) (lo hi d : Nat) (I T : Option Addr) (s : Su) : Prop where
  ini : Ints w hi I s.init
  thr : Thr w lo hi d T s.thr
  len : s.thr.length ≤ 9223372036854775807
  st0 : -9223372036854775808 ≤ s.st
  st1 : s.st < 9223372036854775808
  cl0 : -9223372036854775808 ≤ s.cl
  cl1 : s.cl < 9223372036854775808
  tr0 : -9223372036854775808 ≤ s.tr
  tr1 : s.tr < 9223372036854775808
theorem SuAt.below {w w' : World} {lo hi B d : Nat} {I T : Option Addr} {s : Su} (h : SuAt w lo hi d I T s) (hb : Below B w w') (hB : hi ≤ B) : SuAt w' lo hi d I T s :=
  { h with ini := h.ini.below hb hB, thr := h.thr.below hb hB }
def SetAt (w : World) (lo hi d : Nat) (v : Value) (s : Su) : Prop := ∃ I c T c', v = .agg #[.int .i64 s.st, .int .i64 s.cl, .int .i64 s.tr, .slice I s.init.length c, .slice T s.thr.length c'] ∧ SuAt w lo hi d I T s
/-- Whether all transactions may be, each as the one of its thread that it is. -/
def txsF (d : Nat) : List (List St) → Nat → Bool
  | [], _ => true
  | x :: r, n => mayF d x n && txsF d r (n + 1)
def thrF (d : Nat) : List (List (List St)) → Bool
  | [] => true
  | x :: r => decide (x.length ≤ 6) && (txsF d x 0 && thrF d r)
/-- The greatest of what is measured, 0 if nothing is. -/
def mostL {α : Type} (f : α → Nat) : List α → Nat → Nat
  | [], m => m
  | x :: r, m => mostL f r (max m (f x))
def costX (d : Nat) (tx : List St) : Nat := costL (costF d) tx 0
def costT (d : Nat) (l : List (List St)) : Nat := mostL (costX d) l 0
def costA (d : Nat) (l : List (List (List St))) : Nat := mostL (costT d) l 0
theorem txsF_drop (d : Nat) (l : List (List St)) (k : Nat) (h : k < l.length) : txsF d (l.drop k) k = (mayF d l[k] k && txsF d (l.drop (k + 1)) (k + 1)) := by
  rw [List.drop_eq_getElem_cons h]
  rfl
theorem thrF_drop (d : Nat) (l : List (List (List St))) (k : Nat) (h : k < l.length) : thrF d (l.drop k) = (decide (l[k].length ≤ 6) && (txsF d l[k] 0 && thrF d (l.drop (k + 1)))) := by
  rw [List.drop_eq_getElem_cons h]
  rfl
theorem mostL_drop {α : Type} (f : α → Nat) (l : List α) (k m : Nat) (h : k < l.length) : mostL f (l.drop k) m = mostL f (l.drop (k + 1)) (max m (f l[k])) := by
  rw [List.drop_eq_getElem_cons h]
  rfl
theorem mostL_le {α : Type} (f : α → Nat) (b : Nat) : ∀ (l : List α) (m : Nat), m ≤ b → (∀ x ∈ l, f x ≤ b) → mostL f l m ≤ b := by
  intro l
  induction l with
  | nil => intro m h _; exact h
  | cons x r ih =>
    intro m h hf
    have := hf x (List.mem_cons_self ..)
    exact ih _ (by omega) fun y hy => hf y (List.mem_cons_of_mem _ hy)
theorem mostL_ge {α : Type} (f : α → Nat) : ∀ (l : List α) (m : Nat), m ≤ mostL f l m := by
  intro l
  induction l with
  | nil => intro m; exact Nat.le_refl _
  | cons x r ih => intro m; exact Nat.le_trans (Nat.le_max_left _ _) (ih _)
theorem mostL_mem {α : Type} (f : α → Nat) : ∀ (l : List α) (m : Nat) (x : α), x ∈ l → f x ≤ mostL f l m := by
  intro l
  induction l with
  | nil => intro m x h; cases h
  | cons y r ih =>
    intro m x h
    rcases List.mem_cons.1 h with rfl | h
    · exact Nat.le_trans (Nat.le_max_right _ _) (mostL_ge f r _)
    · exact ih _ x h
theorem mostL_mono {α : Type} (f : α → Nat) : ∀ (l : List α) (m m' : Nat), m ≤ m' → mostL f l m ≤ mostL f l m' := by
  intro l
  induction l with
  | nil => intro m m' h; exact h
  | cons y r ih => intro m m' h; exact ih _ _ (by omega)
theorem mostL_max {α : Type} (f : α → Nat) : ∀ (l : List α) (m : Nat), mostL f l m = max m (mostL f l 0) := by
  intro l
  induction l with
  | nil => intro m; simp [mostL]
  | cons y r ih =>
    intro m
    rw [mostL, mostL, ih (max m (f y)), ih (max 0 (f y))]
    omega
theorem costX_le (d : Nat) (tx : List St) : costX d tx ≤ 2001 := costL_le _ _ _ (by omega)
theorem costT_le (d : Nat) (l : List (List St)) : costT d l ≤ 2001 := mostL_le _ _ _ _ (by omega) fun x _ => costX_le d x
theorem costA_le (d : Nat) (l : List (List (List St))) : costA d l ≤ 2001 := mostL_le _ _ _ _ (by omega) fun x _ => costT_le d x
end Go.Proofs.YtpgkhodofhnpnaaDoor
