/-
  SEVERAL TEXTS IN ONE (a claim has sixty files at most): La, Lf, Wa, Wb, Wc: the head of each stands ahead of it. No condition but theirs.
-/
import Derived.Test.YteigglhhnemngaaGreatDoorRows
import Derived.WalkKit
import Derived.RangeFuncNested
import Derived.RangeFuncBound
import Derived.RangeFuncCalls
import Derived.RangeFuncLeaves
import Derived.RangeFuncWrites
import Derived.Shelf.Abstract
import Derived.Shelf.RegionOpen
import Derived.OwnWalkIn
import Derived.TacticsInMore
import Derived.LoopNIn
import Derived.LoopIn
import Derived.Lib.Hide
import Derived.Below
import Derived.PlainAid
import Derived.Lib.ItoaNum
import Derived.Lib.ParseIntBCases
import Derived.Lib.Join
import Derived.Lib.Bytealg
import Derived.LoopTactic
import Derived.Handy
import Derived.WalkLawsBesides
import Derived.WalkSpells
import Derived.Deep.QuietTactic
import Derived.BigQuiet
namespace Go.Proofs.YteigglhhnemngaaGreatDoor
set_option maxRecDepth 100000
set_option linter.unusedVariables false
abbrev Pr := Int × Int
def look : List Pr → Int → Option Int
  | [], _ => none
  | p :: r, v => if p.1 = v then some p.2 else look r v
end Go.Proofs.YteigglhhnemngaaGreatDoor
namespace Go.Proofs.YteigglhhnemngaaGreatDoor
set_option maxRecDepth 100000
open Go.RowKit Go.Shelf
set_option linter.unusedVariables false
structure Kb8 (n₀ m : Nat) (W W' : World) : Prop where
  low : Below n₀ W W'
  high : ∀ i cs t f, m ≤ i → W.heap[i]? = some (.cells cs t f) → W'.heap[i]? = some (.cells cs t f)
theorem Kb8.refl (n₀ m : Nat) (W : World) : Kb8 n₀ m W W := ⟨Below.refl _ _, fun _ _ _ _ _ h => h⟩
theorem Kb8.trans {n₀ m : Nat} {A B C : World} (h : Kb8 n₀ m A B) (k : Kb8 n₀ m B C) : Kb8 n₀ m A C := ⟨h.low.trans k.low, fun i cs t f hi hA => k.high i cs t f hi (h.high i cs t f hi hA)⟩
theorem Kb8.of_below {n₀ m : Nat} {A B : World} (h : Below A.heap.size A B) (hn : n₀ ≤ A.heap.size) : Kb8 n₀ m A B := ⟨h.mono hn, fun i cs t f hi hA => (h.block i (Array.getElem?_eq_some_iff.1 hA).1).trans hA⟩
theorem Kb8.alloc {n₀ m : Nat} {A : World} (o : Obj) (hn : n₀ ≤ A.heap.size) : Kb8 n₀ m A (A.alloc o) := .of_below ((Below.refl _ _).alloc (Nat.le_refl _) o) hn
theorem Kb8.drew {n₀ m : Nat} {A : World} : Kb8 n₀ m A A.drew := ⟨(Below.refl _ _).drew, fun _ _ _ _ _ h => h⟩
theorem Kb8.set {n₀ m : Nat} {A : World} {g i : Nat} (u : Value) (h1 : n₀ ≤ g) (h2 : g < m) : Kb8 n₀ m A (A.setCell ⟨g, i, none⟩ u) :=
  ⟨(Below.refl n₀ A).setCell (p := ⟨g, i, none⟩) h1 u, fun k cs t f hk hA => (Below.heap_setCell A ⟨g, i, none⟩ u k (by show k ≠ g; omega)).trans hA⟩
theorem Kb8.putObj {n₀ m : Nat} {W : World} (l : Nat) (o o' : Obj) (hn : n₀ ≤ l) (h : W.heap[l]? = some o) (hc : o.isCells = false) : Kb8 n₀ m W (W.putObj l o') :=
  ⟨(Below.refl n₀ W).grown (grownBy_putObj' W l o') (by have := (Array.getElem?_eq_some_iff.1 h).1; omega) (fun k e => by cases e; omega), fun k cs t f hk hA => by
    by_cases hkl : k = l
    · subst hkl
      rw [h] at hA
      cases hA
      cases hc
    · exact (World.putObj_heap_other hkl).trans hA⟩
theorem own_box {β : Type} (B : Nat) (t : TypeId) (f : β → Value) (B' : Nat) : OwnFrom B' (fun s W => _root_.Go.Boxed W B t (f s)) := (boxed_own B t f).from B'
theorem keeps_up {B B' : Nat} {W W' : World} (h : KeepsFrom B W W') (hB : B ≤ B') : KeepsFrom B' W W' := ⟨h.size, fun k o hk => h.same k o (Nat.le_trans hB hk)⟩
theorem keeps_put {B l : Nat} (W : World) (o : Obj) (h : l < B) : KeepsFrom B W (W.putObj l o) := KeepsFrom.of_grownBy (grownBy_putObj' W l o) (fun j e => by cases e; exact h)
def SeqO {α : Type} (F : Fence) (n : Nat) (P : Program) (g : Nat) (lb : Array Value) (encs : α → Array Value) (Kp : World → World → Prop) (S Sp : List α → Prop) (N : Nat) (w : World) : Prop :=
  ∀ (l : Nat) (J Jx : List α → World → Prop) (W : World), Below w.heap.size w W → OwnFrom W.heap.size J → OwnFrom W.heap.size Jx →
    (∀ pre x W1, J pre W1 → pre.length < N → YieldAt F (n - 1) P l (encs x) W1 fun e W' => (e = .returned (.bool true) ∧ J (pre ++ [x]) W' ∧ Kp W1 W' ∧ KeepsFrom W.heap.size W1 W') ∨ (e = .returned (.bool false) ∧ Jx (pre ++ [x]) W' ∧ KeepsFrom W.heap.size W1 W')) →
    J [] W → CallsIn F n P g (#[.func (.yield l) #[] #[]] ++ lb) W fun e W' => (∃ v, e = .returned v) ∧ ((∃ xs, S xs ∧ J xs W') ∨ (∃ pre, Sp pre ∧ Jx pre W'))
def leftO {α : Type} (B : Nat) (Kp : World → World → Prop) (I X : List α → World → Prop) (xs : List α) (W : World) : Exit → Act → World → Prop
  | .normal, _, W' => KeepsFrom B W W' ∧ Kp W W' ∧ I xs W'
  | .ret, _, W' => KeepsFrom B W W' ∧ X xs W'
  | _, _, _ => False
section
variable {F : Fence} {n : Nat} {P : Program}
def recO (fn : FuncId) (tmps : Array Value) (ps : Array Tmp) (assign body : Code) (B : Nat) (st : LoopState) (pe : Option Code) : Loop := { state := st, pending := pe, fn, tmps, params := ps, assign, body, defers := B }
structure BkO (B : Nat) (r : Loop) (W : World) : Prop where
  rcd : W.heap[B + 1]? = some (.loop r)
  dfr : W.heap[B]? = some (.deferred (some []))
theorem BkO.keep {B : Nat} {r : Loop} {W W' : World} (h : BkO B r W) (hk : KeepsFrom B W W') : BkO B r W' := ⟨hk.same _ _ (by omega) h.rcd rfl, hk.same _ _ (Nat.le_refl _) h.dfr rfl⟩
theorem BkO.put {B : Nat} {r : Loop} {W : World} (h : BkO B r W) (r' : Loop) : BkO B r' (W.putObj (B + 1) (.loop r')) := ⟨World.putObj_heap_same (Array.getElem?_eq_some_iff.1 h.rcd).1, (World.putObj_heap_other (by omega)).trans h.dfr⟩
theorem BkO.grown {B : Nat} {r : Loop} {W W' : World} {row : Option Nat} (h : BkO B r W) (hg : W.grownBy W' row) (hr : ∀ k, row = some k → B + 2 ≤ k) : BkO B r W' :=
  ⟨(hg.block _ (Array.getElem?_eq_some_iff.1 h.rcd).1 (fun e => by have := hr _ e.symm; omega)).trans h.rcd, (hg.block _ (Array.getElem?_eq_some_iff.1 h.dfr).1 (fun e => by have := hr _ e.symm; omega)).trans h.dfr⟩
theorem loopO {α : Type} {g : Operand} {ps : Array Tmp} {assign body : Code} {Q : Exit → Act → World → Prop} {a : Act} {w : World} (hro : F.round = none) (h1 : 1 ≤ n) {gf : Nat} {lb : Array Value} (hg : a.eval g = .func (.func gf) #[] lb) (hFg : F.fn gf) (eg : ∀ args w, (callFunc gf args).run P w = .ok (.enter gf args) w)
    {encs : α → Array Value} {n₀ m : Nat} {S Sp : List α → Prop} {N : Nat} (hseq : SeqO F (n - 1) P gf lb encs (Kb8 n₀ m) S Sp N w) (hn₀ : n₀ ≤ w.heap.size) (hps : ∀ x, (encs x).size = ps.size)
    (I X : List α → World → Prop) (hI : OwnFrom w.heap.size I) (hX : OwnFrom w.heap.size X) (h0 : I [] w) (a₁ : α → Act)
    (hassign : ∀ (l : Nat) (x : α) (W : World) (K : Act → World → Prop), K (a₁ x) W → assign.wpIn (F.inRound l) (n - 1 - 1) P (Exit.then K (fun _ _ _ => False)) { tmps := (ps.zip (encs x)).foldl (fun t (p, v) => t.setIfInBounds p v) a.tmps, defers := [] } W)
    (hbody : ∀ (l : Nat) (pre : List α) (x : α) (W : World), I pre W → pre.length < N → body.wpIn (F.inRound l) (n - 1 - 1) P (leftO w.heap.size (Kb8 n₀ m) I X (pre ++ [x]) W) (a₁ x) W)
    (hdone : ∀ (xs : List α) (W : World), S xs → I xs W → W.heap[w.heap.size]? = some (.deferred (some [])) → Q .normal { a with defers := { target := .collected w.heap.size, args := #[] } :: a.defers } W)
    (hstop : ∀ (pre : List α) (W : World), Sp pre → X pre W → W.heap[w.heap.size]? = some (.deferred (some [])) → Code.ret.wpIn F n P Q { a with defers := { target := .collected w.heap.size, args := #[] } :: a.defers } W) :
    (Code.rangeFunc g ps assign body).wpIn F n P Q a w := by
  refine wpIn_rangeFunc fun fn hfn => ?_
  rw [hro]
  have hbk : BkO w.heap.size (recO fn a.tmps ps assign body w.heap.size .ready none) ((w.alloc (.deferred (some []))).alloc (.loop (recO fn a.tmps ps assign body w.heap.size .ready none))) := by
    refine ⟨?_, (Below.heap_alloc _ _ _ (by simp)).trans (World.alloc_heap_new w _)⟩
    have := World.alloc_heap_new (w.alloc (.deferred (some []))) (.loop (recO fn a.tmps ps assign body w.heap.size .ready none))
    rwa [World.size_alloc] at this
  have hz : ((w.alloc (.deferred (some []))).alloc (.loop (recO fn a.tmps ps assign body w.heap.size .ready none))).heap.size = w.heap.size + 2 := by simp
  have hbl : Below w.heap.size w ((w.alloc (.deferred (some []))).alloc (.loop (recO fn a.tmps ps assign body w.heap.size .ready none))) := ((Below.refl _ w).alloc (Nat.le_refl _) _).alloc (by simp) _
  have hi0 : I [] ((w.alloc (.deferred (some []))).alloc (.loop (recO fn a.tmps ps assign body w.heap.size .ready none))) := hI.alloc _ (hI.alloc _ h0)
  have hen := run_enterLoop_outer (P := P) (w := w) fn a.tmps ps assign body
  change _ = Result.ok _ ((w.alloc (.deferred (some []))).alloc (.loop (recO fn a.tmps ps assign body w.heap.size .ready none))) at hen
  revert hbk hz hbl hi0 hen
  generalize (w.alloc (.deferred (some []))).alloc (.loop (recO fn a.tmps ps assign body w.heap.size .ready none)) = W1
  intro hbk hz hbl hi0 hen
  refine ⟨w.heap.size + 1, [{ target := .collected w.heap.size, args := #[] }], W1, { target := .fn (.func gf) lb, args := #[.func (.yield (w.heap.size + 1)) #[] #[]] }, W1, gf, #[.func (.yield (w.heap.size + 1)) #[] #[]] ++ lb, W1, hen, ?_, ?_, ?_, fun _ => h1, ?_⟩
  · simp only [resolve, hg]
    simp [go_sem]
  · intro f' hf'
    simp [Target.leads] at hf'
    subst hf'
    exact hFg
  · simp [invoke, go_sem, eg]
  · skip
    have far : ∀ {A : World} {row : Option Nat}, (∀ r, row = some r → W1.heap.size ≤ r ∧ ∃ o : Obj, A.heap[r]? = some o ∧ o.isCells = false) → (∀ r, row = some r → w.heap.size ≤ r ∧ ∃ o : Obj, A.heap[r]? = some o ∧ o.isCells = false) ∧ ∀ r, row = some r → w.heap.size + 2 ≤ r :=
      fun h => ⟨fun r e => ⟨by have := (h r e).1; omega, (h r e).2⟩, fun r e => by have := (h r e).1; omega⟩
    refine (hseq (w.heap.size + 1) (fun pre W => I pre W ∧ BkO w.heap.size (recO fn a.tmps ps assign body w.heap.size .ready none) W) (fun pre W => X pre W ∧ BkO w.heap.size (recO fn a.tmps ps assign body w.heap.size .done (some .ret)) W) W1 hbl
      (fun s A C row hs hg' hr => ⟨hI s A C row hs.1 hg' (far hr).1, hs.2.grown hg' (far hr).2⟩) (fun s A C row hs hg' hr => ⟨hX s A C row hs.1 hg' (far hr).1, hs.2.grown hg' (far hr).2⟩) ?_ ⟨hi0, hbk⟩).mono ?_
    · rintro pre x W ⟨hi, hb⟩ hlen
      refine ⟨fn, _, assign, body, run_yield hb.rcd (hps x), roundIn_of_wpIn hfn (hassign _ x W _ ⟨_, run_beginRound hb.rcd rfl, ?_⟩)⟩
      have hb2 : BkO w.heap.size (recO fn a.tmps ps assign body w.heap.size .busy none) (W.putObj (w.heap.size + 1) (.loop (recO fn a.tmps ps assign body w.heap.size .busy none))) := hb.put _
      have hi2 : I pre (W.putObj (w.heap.size + 1) (.loop (recO fn a.tmps ps assign body w.heap.size .busy none))) := hI.putObj _ hi (by omega) hb.rcd rfl
      have hk2 : Kb8 n₀ m W (W.putObj (w.heap.size + 1) (.loop (recO fn a.tmps ps assign body w.heap.size .busy none))) := Kb8.putObj _ _ _ (by omega) hb.rcd rfl
      refine wpIn_mono (hbody _ pre x _ hi2 hlen) ?_
      rintro e a3 W3 hp
      cases e with
      | normal =>
        obtain ⟨q1, q2, q3⟩ := hp
        have hb3 := hb2.keep q1
        exact ⟨_, _, run_endRound none hb3.rcd, .inl ⟨rfl, ⟨hI.putObj _ q3 (by omega) hb3.rcd rfl, hb3.put _⟩, (hk2.trans q2).trans (Kb8.putObj _ _ _ (by omega) hb3.rcd rfl), ((keeps_put _ _ (by omega)).trans (keeps_up q1 (by omega))).trans (keeps_put _ _ (by omega))⟩⟩
      | ret =>
        obtain ⟨q1, q3⟩ := hp
        have hb3 := hb2.keep q1
        exact ⟨_, _, run_endRound (some .ret) hb3.rcd, .inr ⟨rfl, ⟨hX.putObj _ q3 (by omega) hb3.rcd rfl, hb3.put _⟩, ((keeps_put _ _ (by omega)).trans (keeps_up q1 (by omega))).trans (keeps_put _ _ (by omega))⟩⟩
      | exit id => exact hp.elim
      | goto t => exact hp.elim
      | panic ch => exact hp.elim
      | outgrown => exact hp.elim
    · rintro e W2 ⟨⟨v, rfl⟩, (⟨xs, hS, hi, hb⟩ | ⟨pre, hSp, hi, hb⟩)⟩
      · exact ⟨none, _, run_endLoop hb.rcd (by simp [recO]), hdone xs _ hS (hI.putObj _ hi (by omega) hb.rcd rfl) ((World.putObj_heap_other (by omega)).trans hb.dfr)⟩
      · exact ⟨some .ret, _, run_endLoop hb.rcd (by simp [recO]), hstop pre _ hSp (hX.putObj _ hi (by omega) hb.rcd rfl) ((World.putObj_heap_other (by omega)).trans hb.dfr)⟩
end
end Go.Proofs.YteigglhhnemngaaGreatDoor
namespace Go.Proofs.YteigglhhnemngaaGreatDoor
set_option maxRecDepth 100000
set_option linter.unusedVariables false
structure Ev where
  kd : Int
  th : Int
  tx : Int
  pl : Int
  v : Int
  x : Int
  why : Int
deriving DecidableEq
structure Part where
  wh : Fin 5
  lo : Int
  hi : Int
def put5 (c : Nat → Int) (k : Nat) (y : Int) : Nat → Int := fun i => if i = k then y else c i
def numC (e : Ev) : Nat → Int := fun i => if i = 0 then e.tx else if i = 1 then e.pl else if i = 2 then e.v else if i = 3 then e.x else if i = 4 then e.why else 0
def ev0 : Ev := ⟨0, 0, 0, 0, 0, 0, 0⟩
def partsK (kd : Nat) (va st : Int) : List Part :=
  match kd with
  | 1 => [⟨0, 0, 5⟩, ⟨2, 0, 1099511627776⟩]
  | 2 => [⟨1, 0, st - 1⟩, ⟨2, 0, 1099511627776⟩]
  | 3 => [⟨1, 0, va - 1⟩, ⟨3, -9223372036854775808, 9223372036854775807⟩]
  | 4 => [⟨1, 0, st - 1⟩]
  | 5 => [⟨2, 1, 1099511627776⟩]
  | 6 => [⟨1, 0, st - 1⟩]
  | 7 => [⟨2, 0, 1099511627776⟩]
  | 8 => [⟨1, 0, va - 1⟩, ⟨3, -9223372036854775808, 9223372036854775807⟩]
  | 9 => [⟨1, 0, st - 1⟩]
  | 10 => [⟨4, 1, 6⟩, ⟨1, 0, st - 1⟩]
  | 11 => [⟨1, 0, st - 1⟩]
  | _ => []
def inP (p : Part) (y : Int) : Bool := decide (p.lo ≤ y) && decide (y ≤ p.hi)
def scanP : List Part → (Nat → Int) → Option (Nat → Int)
  | [], c => some c
  | p :: r, c => if inP p (c p.wh) then scanP r (put5 c p.wh 0) else none
theorem scanP_snoc (l : List Part) (p : Part) (c : Nat → Int) : scanP (l ++ [p]) c = match scanP l c with
    | some d => if inP p (d p.wh) then some (put5 d p.wh 0) else none
    | none => none := by
  induction l generalizing c with
  | nil => simp [scanP]
  | cons q r ih =>
    simp only [List.cons_append, scanP]
    split
    · exact ih _
    · rfl
theorem scanP_pre {l : List Part} {c : Nat → Int} (h : scanP l c = none) (r : List Part) : scanP (l ++ r) c = none := by
  induction l generalizing c with
  | nil => simp [scanP] at h
  | cons q t ih =>
    simp only [List.cons_append, scanP] at h ⊢
    split
    · rw [if_pos (by assumption)] at h
      exact ih h
    · rfl
def zeroB (c : Nat → Int) : Bool := c 0 == 0 && c 1 == 0 && c 2 == 0 && c 3 == 0 && c 4 == 0
def zeroO : Option (Nat → Int) → Bool
  | none => false
  | some c => zeroB c
def sizesB (T V S : Int) : Bool := (decide (1 ≤ T) && decide (T ≤ 6)) && (decide (1 ≤ V) && decide (V ≤ 32)) && (decide (1 ≤ S) && decide (S ≤ V))
def fullB (kd why : Int) : Bool := kd == 10 && why == 6
def mayB (e : Ev) (T V S : Int) : Bool := sizesB T V S && (decide (0 ≤ e.th) && decide (e.th ≤ T - 1)) && (decide (1 ≤ e.kd) && decide (e.kd ≤ 13)) && !(fullB e.kd e.why && e.pl != 0) && zeroO (scanP (partsK e.kd.toNat V S) (numC e))
def MayK (e : Ev) (V S : Int) : Prop :=
  (e.kd = 1 ∧ (0 ≤ e.tx ∧ e.tx ≤ 5) ∧ e.pl = 0 ∧ (0 ≤ e.v ∧ e.v ≤ 1099511627776) ∧ e.x = 0 ∧ e.why = 0) ∨
  (e.kd = 2 ∧ e.tx = 0 ∧ (0 ≤ e.pl ∧ e.pl ≤ S - 1) ∧ (0 ≤ e.v ∧ e.v ≤ 1099511627776) ∧ e.x = 0 ∧ e.why = 0) ∨
  ((e.kd = 3 ∨ e.kd = 8) ∧ e.tx = 0 ∧ (0 ≤ e.pl ∧ e.pl ≤ V - 1) ∧ e.v = 0 ∧ (-9223372036854775808 ≤ e.x ∧ e.x ≤ 9223372036854775807) ∧ e.why = 0) ∨
  ((e.kd = 4 ∨ e.kd = 6 ∨ e.kd = 9 ∨ e.kd = 11) ∧ e.tx = 0 ∧ (0 ≤ e.pl ∧ e.pl ≤ S - 1) ∧ e.v = 0 ∧ e.x = 0 ∧ e.why = 0) ∨
  (e.kd = 5 ∧ e.tx = 0 ∧ e.pl = 0 ∧ (1 ≤ e.v ∧ e.v ≤ 1099511627776) ∧ e.x = 0 ∧ e.why = 0) ∨
  (e.kd = 7 ∧ e.tx = 0 ∧ e.pl = 0 ∧ (0 ≤ e.v ∧ e.v ≤ 1099511627776) ∧ e.x = 0 ∧ e.why = 0) ∨
  (e.kd = 10 ∧ e.tx = 0 ∧ (0 ≤ e.pl ∧ e.pl ≤ S - 1) ∧ e.v = 0 ∧ e.x = 0 ∧ (1 ≤ e.why ∧ e.why ≤ 6) ∧ (e.why = 6 → e.pl = 0)) ∨
  ((e.kd = 12 ∨ e.kd = 13) ∧ e.tx = 0 ∧ e.pl = 0 ∧ e.v = 0 ∧ e.x = 0 ∧ e.why = 0)
theorem zeroO_some (a : Nat → Int) : zeroO (some a) = zeroB a := rfl
theorem if_some {p : Prop} [Decidable p] {a : Nat → Int} : zeroO (if p then some a else none) = (decide p && zeroB a) := by
  by_cases h : p <;> simp [h, zeroO]
theorem if_if {p q : Prop} [Decidable p] [Decidable q] {a : Nat → Int} : zeroO (if p then (if q then some a else none) else none) = (decide p && (decide q && zeroB a)) := by
  by_cases h : p <;> by_cases h2 : q <;> simp [h, h2, zeroO]
theorem may_iff (e : Ev) (T V S : Int) : mayB e T V S = true ↔ (sizesB T V S = true ∧ (0 ≤ e.th ∧ e.th ≤ T - 1) ∧ MayK e V S) := by
  obtain ⟨kd, th, tx, pl, v, x, why⟩ := e
  by_cases hk : 1 ≤ kd ∧ kd ≤ 13
  · obtain ⟨k, rfl⟩ : ∃ k : Nat, kd = k := ⟨kd.toNat, by omega⟩
    have : k = 1 ∨ k = 2 ∨ k = 3 ∨ k = 4 ∨ k = 5 ∨ k = 6 ∨ k = 7 ∨ k = 8 ∨ k = 9 ∨ k = 10 ∨ k = 11 ∨ k = 12 ∨ k = 13 := by omega
    rcases this with rfl | rfl | rfl | rfl | rfl | rfl | rfl | rfl | rfl | rfl | rfl | rfl | rfl <;>
      simp [mayB, MayK, fullB, partsK, scanP, numC, put5, if_some, if_if, zeroO_some, zeroB, inP, and_assoc] <;> (intros; omega)
  · have h2 : ¬ MayK ⟨kd, th, tx, pl, v, x, why⟩ V S := by
      unfold MayK
      simp only
      omega
    have h3 : mayB ⟨kd, th, tx, pl, v, x, why⟩ T V S = false := by
      have : (decide (1 ≤ kd) && decide (kd ≤ 13)) = false := by
        by_cases a : 1 ≤ kd
        · have : ¬ kd ≤ 13 := fun b => hk ⟨a, b⟩
          simp [this]
        · simp [a]
      simp [mayB, this]
    simp [h2, h3]
end Go.Proofs.YteigglhhnemngaaGreatDoor
namespace Go.Proofs.YteigglhhnemngaaGreatDoor
set_option maxRecDepth 100000
set_option linter.unusedVariables false
open Go.Lib
def nmL (k : Nat) : List UInt8 :=
  match k with
  | 1 => [98, 101, 103, 105, 110]
  | 2 => [108, 111, 111, 107]
  | 3 => [108, 111, 97, 100]
  | 4 => [108, 111, 99, 107]
  | 5 => [98, 117, 109, 112]
  | 6 => [99, 104, 101, 99, 107]
  | 7 => [99, 111, 109, 109, 105, 116]
  | 8 => [115, 116, 111, 114, 101]
  | 9 => [102, 114, 101, 101]
  | 10 => [97, 98, 111, 114, 116]
  | 11 => [117, 110, 100, 111]
  | 12 => [119, 97, 105, 116]
  | 13 => [119, 97, 107, 101]
  | _ => []
theorem r13 : List.range' 1 13 = [1, 2, 3, 4, 5, 6, 7, 8, 9, 10, 11, 12, 13] := rfl
end Go.Proofs.YteigglhhnemngaaGreatDoor
namespace Go.Proofs.YteigglhhnemngaaGreatDoor
set_option maxRecDepth 100000
open Go.RowKit
set_option linter.unusedVariables false
def bsW (l : List UInt8) : ByteArray := ⟨l.toArray⟩
theorem bsW_list (l : List UInt8) : (bsW l).data.toList = l := by simp [bsW]
theorem bsW_of (s : ByteArray) : bsW s.data.toList = s := by cases s; simp [bsW]
theorem there_blockW {w : World} {p : Addr} {v : Value} (h : w.cell? p = some v) : p.block < w.heap.size := by
  unfold World.cell? at h
  rcases Nat.lt_or_ge p.block w.heap.size with hh | hh
  · exact hh
  · rw [Array.getElem?_eq_none hh] at h; simp at h
structure Ek (w : World) : Prop where
  nm : ∀ k, k < 14 → w.cell? ⟨1, k, none⟩ = some (.string (bsW (nmL k)))
theorem Ek.below {w w' : World} (h : Ek w) (hb : Below w.heap.size w w') : Ek w' :=
  ⟨fun k hk => (hb.cell (there_blockW (h.nm k hk))).trans (h.nm k hk)⟩
theorem nmL_none {k : Nat} (h : 14 ≤ k) : nmL k = [] := by
  unfold nmL
  split <;> first | omega | rfl
def nmV (k : Nat) : Value := .string (bsW (nmL k))
theorem name_any (k : Nat) (hk : k < 256) (w : World) (he : Ek w) :
    Calls Tryz.prog 114 #[.int .u8 k] w fun e w' => e = .returned (nmV k) ∧ w = w' := by
  have i1 : (0 : Int) ≤ (k : Int) := by omega
  have i2 : (k : Int) ≤ 255 := by omega
  by_cases h : k < 14
  · have c1 := he.nm k h
    have i3 : (k : Int) < 14 := by omega
    obtain ⟨v, hv⟩ : ∃ v, v = nmV k := ⟨_, rfl⟩
    rw [← hv]
    unfold nmV at hv
    rw [← hv] at c1
    clear hv he h hk
    go_enter Tryz.func114, Tryz.ntmps114
    go_wp2
    go_ret
    exact ⟨rfl, rfl⟩
  · have i3 : (14 : Int) ≤ (k : Int) := by omega
    rw [show nmV k = .string ⟨#[]⟩ by unfold nmV; rw [nmL_none (by omega)]; rfl]
    clear he h hk
    go_enter Tryz.func114, Tryz.ntmps114
    go_wp2
    go_ret
    exact ⟨rfl, rfl⟩
theorem within_any (n lo hi : Int) (w : World) :
    Calls Tryz.prog 113 #[.int .i64 n, .int .i64 lo, .int .i64 hi] w fun e w' => e = .returned (.bool (decide (lo ≤ n) && decide (n ≤ hi))) ∧ w = w' := by
  by_cases h1 : lo ≤ n
  · by_cases h2 : n ≤ hi
    · rw [show (decide (lo ≤ n) && decide (n ≤ hi)) = true by simp [h1, h2]]
      go_enter Tryz.func113, Tryz.ntmps113
      go_wp2
      go_ret
      exact ⟨rfl, rfl⟩
    · have h3 : decide (n ≤ hi) = false := by simpa using h2
      rw [h3, Bool.and_false]
      clear h2
      go_enter Tryz.func113, Tryz.ntmps113
      go_wp2
      go_ret
      exact ⟨rfl, rfl⟩
  · have h3 : n < lo := by omega
    rw [show (decide (lo ≤ n) && decide (n ≤ hi)) = false by simp [h1]]
    clear h1
    go_enter Tryz.func113, Tryz.ntmps113
    go_wp2
    go_ret
    exact ⟨rfl, rfl⟩
theorem within64_any (n lo hi : Int) (w : World) :
    Calls Tryz.prog 118 #[.int .i64 n, .int .i64 lo, .int .i64 hi] w fun e w' => e = .returned (.bool (decide (lo ≤ n) && decide (n ≤ hi))) ∧ w = w' := by
  by_cases h1 : lo ≤ n
  · by_cases h2 : n ≤ hi
    · rw [show (decide (lo ≤ n) && decide (n ≤ hi)) = true by simp [h1, h2]]
      go_enter Tryz.func118, Tryz.ntmps118
      go_wp2
      go_ret
      exact ⟨rfl, rfl⟩
    · have h3 : decide (n ≤ hi) = false := by simpa using h2
      rw [h3, Bool.and_false]
      clear h2
      go_enter Tryz.func118, Tryz.ntmps118
      go_wp2
      go_ret
      exact ⟨rfl, rfl⟩
  · have h3 : n < lo := by omega
    rw [show (decide (lo ≤ n) && decide (n ≤ hi)) = false by simp [h1]]
    clear h1
    go_enter Tryz.func118, Tryz.ntmps118
    go_wp2
    go_ret
    exact ⟨rfl, rfl⟩
theorem sizes_any (T V S : Int) (w : World) :
    Calls Tryz.prog 112 #[.int .i64 T, .int .i64 V, .int .i64 S] w fun e w' => e = .returned (.bool (sizesB T V S)) ∧ w = w' := by
  unfold sizesB
  obtain ⟨a, ha⟩ : ∃ a, a = (decide (1 ≤ T) && decide (T ≤ 6)) := ⟨_, rfl⟩
  obtain ⟨b, hb⟩ : ∃ b, b = (decide (1 ≤ V) && decide (V ≤ 32)) := ⟨_, rfl⟩
  obtain ⟨c, hc⟩ : ∃ c, c = (decide (1 ≤ S) && decide (S ≤ V)) := ⟨_, rfl⟩
  have k1 := Lib.hid (within_any T 1 6 w)
  have k2 := Lib.hid (within_any V 1 32 w)
  have k3 := Lib.hid (within_any S 1 V w)
  rw [← ha] at k1 ⊢
  rw [← hb] at k2 ⊢
  rw [← hc] at k3 ⊢
  clear ha hb hc
  cases a with
  | false =>
    rw [show (false && b && c) = false by simp]
    go_enter Tryz.func112, Tryz.ntmps112
    go_wp2_with fail
    refine k1.out.mono ?_
    rintro _ w1 ⟨rfl, rfl⟩
    go_wp2_with fail
    go_ret
    exact ⟨rfl, rfl⟩
  | true =>
    cases b with
    | false =>
      rw [show (true && false && c) = false by simp]
      go_enter Tryz.func112, Tryz.ntmps112
      go_wp2_with fail
      refine k1.out.mono ?_
      rintro _ w1 ⟨rfl, rfl⟩
      go_wp2_with fail
      refine k2.out.mono ?_
      rintro _ w1 ⟨rfl, rfl⟩
      go_wp2_with fail
      go_ret
      exact ⟨rfl, rfl⟩
    | true =>
      rw [show (true && true && c) = c by simp]
      go_enter Tryz.func112, Tryz.ntmps112
      go_wp2_with fail
      refine k1.out.mono ?_
      rintro _ w1 ⟨rfl, rfl⟩
      go_wp2_with fail
      refine k2.out.mono ?_
      rintro _ w1 ⟨rfl, rfl⟩
      go_wp2_with fail
      refine k3.out.mono ?_
      rintro _ w1 ⟨rfl, rfl⟩
      go_wp2_with fail
      go_ret
      exact ⟨rfl, rfl⟩
def evV (e : Ev) : Value := .agg #[.int .u8 e.kd, .int .i64 e.th, .int .i64 e.tx, .int .i64 e.pl, .int .i64 e.v, .int .i64 e.x, .int .u8 e.why]
def evC (e : Ev) : Array Value := #[.int .u8 e.kd, .int .i64 e.th, .int .i64 e.tx, .int .i64 e.pl, .int .i64 e.v, .int .i64 e.x, .int .u8 e.why]
theorem full_any (e : Ev) (w : World) :
    Calls Tryz.prog 115 #[evV e] w fun r w' => r = .returned (.bool (fullB e.kd e.why)) ∧ Below w.heap.size w w' := by
  obtain ⟨kd, th, tx, pl, v, x, why⟩ := e
  unfold evV fullB
  simp only
  cases h1 : (kd == 10) with
  | false =>
    rw [Bool.false_and]
    go_enter Tryz.func115, Tryz.ntmps115
    go_wp2
    go_ret
    exact ⟨rfl, (Below.refl _ _).alloc (Nat.le_refl _) _⟩
  | true =>
    rw [Bool.true_and]
    go_enter Tryz.func115, Tryz.ntmps115
    go_wp2
    go_ret
    exact ⟨rfl, (Below.refl _ _).alloc (Nat.le_refl _) _⟩
def stripeF (e : Ev) (S : Int) : Int × Bool :=
  if S < 1 ∨ e.pl < 0 ∨ fullB e.kd e.why = true then (0, false)
  else if e.kd = 2 ∨ e.kd = 4 ∨ e.kd = 6 ∨ e.kd = 9 ∨ e.kd = 11 ∨ e.kd = 10 then (e.pl, true)
  else if e.kd = 3 ∨ e.kd = 8 then (e.pl % S, true) else (0, false)
def strV (p : Int × Bool) : Value := .tuple #[.int .i64 p.1, .bool p.2]
theorem ret_str {p : Int × Bool} {a : Int} {b : Bool} (h : p = (a, b)) : Ending.returned (.tuple #[.int .i64 a, .bool b]) = .returned (strV p) := by rw [h]; rfl
end Go.Proofs.YteigglhhnemngaaGreatDoor
