/-
  A LOOP OVER AN ITERATOR, TOWARDS AN ITERATOR THAT ITSELF LOOPS OVER ANOTHER ONE: the contract of such an iterator (SeqO: the caller's invariants abide whatever becomes of blocks behind that are no cells), and the loop's law off it (loopO), for bodies that go on or return; what a round keeps (Kb8). No function of the program. Conditions: as they stand.
-/
import Derived.Test.YtkfcglgikemefaaDoorLa
import Derived.RangeFuncNested
import Derived.RangeFuncBound
import Derived.RangeFuncCalls
import Derived.RangeFuncLeaves
import Derived.RangeFuncWrites
import Derived.Shelf.Abstract
import Derived.Shelf.RegionOpen
import Derived.WalkKit
import Derived.OwnWalkIn
import Derived.TacticsInMore
import Derived.LoopNIn
import Derived.LoopIn
import Derived.Lib.Hide
import Derived.Below
namespace Go.Proofs.YtkfcglgikemefaaDoor
set_option maxRecDepth 100000
open Go.RowKit Go.Shelf
set_option linter.unusedVariables false
/-- What a round keeps: what lay below n₀, and the blocks of cells from m on. -/
structure Kb8 (n₀ m : Nat) (W W' : World) : Prop where
  low : Below n₀ W W'
  high : ∀ i cs t f, m ≤ i → W.heap[i]? = some (.cells cs t f) → W'.heap[i]? = some (.cells cs t f)
theorem Kb8.refl (n₀ m : Nat) (W : World) : Kb8 n₀ m W W := ⟨Below.refl _ _, fun _ _ _ _ _ h => h⟩
theorem Kb8.trans {n₀ m : Nat} {A B C : World} (h : Kb8 n₀ m A B) (k : Kb8 n₀ m B C) : Kb8 n₀ m A C := ⟨h.low.trans k.low, fun i cs t f hi hA => k.high i cs t f hi (h.high i cs t f hi hA)⟩
theorem Kb8.of_below {n₀ m : Nat} {A B : World} (h : Below A.heap.size A B) (hn : n₀ ≤ A.heap.size) : Kb8 n₀ m A B := ⟨h.mono hn, fun i cs t f hi hA => (h.block i (Array.getElem?_eq_some_iff.1 hA).1).trans hA⟩
theorem Kb8.alloc {n₀ m : Nat} {A : World} (o : Obj) (hn : n₀ ≤ A.heap.size) : Kb8 n₀ m A (A.alloc o) := .of_below ((Below.refl _ _).alloc (Nat.le_refl _) o) hn
theorem Kb8.drew {n₀ m : Nat} {A : World} : Kb8 n₀ m A A.drew := ⟨(Below.refl _ _).drew, fun _ _ _ _ _ h => h⟩
theorem Kb8.set {n₀ m : Nat} {A : World} {g i : Nat} (u : Value) (h1 : n₀ ≤ g) (h2 : g < m) : Kb8 n₀ m A (A.setCell ⟨g, i, none⟩ u) :=
  ⟨(Below.refl n₀ A).setCell (p := ⟨g, i, none⟩) h1 u, fun k cs t f hk hA => (Below.heap_setCell A ⟨g, i, none⟩ u k (by show k ≠ g; omega)).trans hA⟩
theorem Kb8.of_map {n₀ m : Nat} {A B : World} {b : Nat} (h : A.grownBy B (some b)) (h1 : n₀ ≤ b) (h2 : b < m) (hn : n₀ ≤ A.heap.size) : Kb8 n₀ m A B :=
  ⟨⟨h.os, h.tape, h.output, h.size, fun i hi => h.block i (by omega) (fun e => by cases e; omega)⟩, fun k cs t f hk hA => (h.block k (Array.getElem?_eq_some_iff.1 hA).1 (fun e => by cases e; omega)).trans hA⟩
theorem Kb8.putObj {n₀ m : Nat} {W : World} (l : Nat) (o o' : Obj) (hn : n₀ ≤ l) (h : W.heap[l]? = some o) (hc : o.isCells = false) : Kb8 n₀ m W (W.putObj l o') :=
  ⟨(Below.refl n₀ W).grown (grownBy_putObj' W l o') (by have := (Array.getElem?_eq_some_iff.1 h).1; omega) (fun k e => by cases e; omega), fun k cs t f hk hA => by
    by_cases hkl : k = l
    · subst hkl
      rw [h] at hA
      cases hA
      cases hc
    · exact (World.putObj_heap_other hkl).trans hA⟩
theorem room8 {F : Fence} (hd : F.depth = none) (k : Nat) : F.room k := fun d h => by rw [hd] at h; cases h
theorem round_free {F : Fence} (hd : F.depth = none) {m m' : Nat} {P : Program} {l : Nat} {f : FuncId} {tmps : Array Value} {assign body : Code} {w : World} {R : Ending → World → Prop} (h : RoundIn F m P l f tmps assign body w R) : RoundIn F m' P l f tmps assign body w R := ⟨h.1, fun c cs _ => h.2 c cs (room8 hd _)⟩
theorem yield_free {F : Fence} (hd : F.depth = none) {m : Nat} (m' : Nat) {P : Program} {l : Nat} {args : Array Value} {W : World} {R : Ending → World → Prop} (h : YieldAt F m P l args W R) : YieldAt F m' P l args W R := by
  obtain ⟨fn, tmps, assign, body, hy, hR⟩ := h
  exact ⟨fn, tmps, assign, body, hy, round_free hd hR⟩
theorem yield_within {F : Fence} {m : Nat} (l₂ : Nat) {P : Program} {l : Nat} {args : Array Value} {W : World} {R : Ending → World → Prop} (h : YieldAt F m P l args W R) : YieldAt (F.inRound l₂) m P l args W R := h
theorem own_up {β : Type} {B B' : Nat} {I : β → World → Prop} (h : OwnFrom B I) (hB : B ≤ B') : OwnFrom B' I := fun s W W' row hs hg hr => h s W W' row hs hg fun r e => ⟨Nat.le_trans hB (hr r e).1, (hr r e).2⟩
theorem own_along {β γ : Type} {B : Nat} {I : β → World → Prop} (h : OwnFrom B I) (f : γ → β) : OwnFrom B (fun s W => I (f s) W) := fun s W W' row hs hg hr => h (f s) W W' row hs hg hr
theorem own_drew {β : Type} {B : Nat} {I : β → World → Prop} (h : OwnFrom B I) {s : β} {W : World} (hs : I s W) : I s W.drew := h s W _ none hs ⟨rfl, rfl, rfl, Nat.le_refl _, fun _ _ _ => rfl⟩ (fun r e => by cases e)
theorem own_box {β : Type} (B : Nat) (t : TypeId) (f : β → Value) (B' : Nat) : OwnFrom B' (fun s W => _root_.Go.Boxed W B t (f s)) := (boxed_own B t f).from B'
theorem box_kc {n₀ m : Nat} {A C : World} (h : Kb8 n₀ m A C) {B : Nat} {t : TypeId} {v : Value} (hm : m ≤ B) (hb : _root_.Go.Boxed A B t v) : _root_.Go.Boxed C B t v := h.high B _ _ _ hm hb
theorem keeps_up {B B' : Nat} {W W' : World} (h : KeepsFrom B W W') (hB : B ≤ B') : KeepsFrom B' W W' := ⟨h.size, fun k o hk => h.same k o (Nat.le_trans hB hk)⟩
theorem keeps_put {B l : Nat} (W : World) (o : Obj) (h : l < B) : KeepsFrom B W (W.putObj l o) := KeepsFrom.of_grownBy (grownBy_putObj' W l o) (fun j e => by cases e; exact h)
/-- AN ITERATOR's CONTRACT: the caller's two invariants may speak of whatever lies below, and of cells. -/
def SeqO {α : Type} (F : Fence) (n : Nat) (P : Program) (g : Nat) (lb : Array Value) (encs : α → Array Value) (Kp : World → World → Prop) (S Sp : List α → Prop) (N : Nat) (w : World) : Prop :=
  ∀ (l : Nat) (J Jx : List α → World → Prop) (W : World), Below w.heap.size w W → OwnFrom W.heap.size J → OwnFrom W.heap.size Jx →
    (∀ pre x W1, J pre W1 → pre.length < N → YieldAt F (n - 1) P l (encs x) W1 fun e W' => (e = .returned (.bool true) ∧ J (pre ++ [x]) W' ∧ Kp W1 W' ∧ KeepsFrom W.heap.size W1 W') ∨ (e = .returned (.bool false) ∧ Jx (pre ++ [x]) W' ∧ KeepsFrom W.heap.size W1 W')) →
    J [] W → CallsIn F n P g (#[.func (.yield l) #[] #[]] ++ lb) W fun e W' => (∃ v, e = .returned v) ∧ ((∃ xs, S xs ∧ J xs W') ∨ (∃ pre, Sp pre ∧ Jx pre W'))
/-- How a body that goes on, or returns, is left. -/
def leftO {α : Type} (B : Nat) (Kp : World → World → Prop) (I X : List α → World → Prop) (xs : List α) (W : World) : Exit → Act → World → Prop
  | .normal, _, W' => KeepsFrom B W W' ∧ Kp W W' ∧ I xs W'
  | .ret, _, W' => KeepsFrom B W W' ∧ X xs W'
  | _, _, _ => False
section
variable {F : Fence} {n : Nat} {P : Program}
/-- The loop's record. -/
def recO (fn : FuncId) (tmps : Array Value) (ps : Array Tmp) (assign body : Code) (B : Nat) (st : LoopState) (pe : Option Code) : Loop := { state := st, pending := pe, fn, tmps, params := ps, assign, body, defers := B }
/-- The loop's two blocks. -/
structure BkO (B : Nat) (r : Loop) (W : World) : Prop where
  rcd : W.heap[B + 1]? = some (.loop r)
  dfr : W.heap[B]? = some (.deferred (some []))
theorem BkO.keep {B : Nat} {r : Loop} {W W' : World} (h : BkO B r W) (hk : KeepsFrom B W W') : BkO B r W' := ⟨hk.same _ _ (by omega) h.rcd rfl, hk.same _ _ (Nat.le_refl _) h.dfr rfl⟩
theorem BkO.put {B : Nat} {r : Loop} {W : World} (h : BkO B r W) (r' : Loop) : BkO B r' (W.putObj (B + 1) (.loop r')) := ⟨World.putObj_heap_same (Array.getElem?_eq_some_iff.1 h.rcd).1, (World.putObj_heap_other (by omega)).trans h.dfr⟩
theorem BkO.grown {B : Nat} {r : Loop} {W W' : World} {row : Option Nat} (h : BkO B r W) (hg : W.grownBy W' row) (hr : ∀ k, row = some k → B + 2 ≤ k) : BkO B r W' :=
  ⟨(hg.block _ (Array.getElem?_eq_some_iff.1 h.rcd).1 (fun e => by have := hr _ e.symm; omega)).trans h.rcd, (hg.block _ (Array.getElem?_eq_some_iff.1 h.dfr).1 (fun e => by have := hr _ e.symm; omega)).trans h.dfr⟩
theorem loopO {α : Type} {g : Operand} {ps : Array Tmp} {assign body : Code} {Q : Exit → Act → World → Prop} {a : Act} {w : World} (hro : F.round = none) (h1 : 1 ≤ n) {gf : Nat} {lb : Array Value} (hg : a.eval g = .func (.func gf) #[] lb) (hFg : F.fn gf) (eg : ∀ args w, (callFunc gf args).run P w = .ok (.enter gf args) w)
    {encs : α → Array Value} {n₀ m : Nat} {S Sp : List α → Prop} {N : Nat} (hseq : SeqO F (n - 1) P gf lb encs (Kb8 n₀ m) S Sp N w) (hn₀ : n₀ ≤ w.heap.size) (hps : ∀ x, (encs x).size = ps.size)
    (I X : List α → World → Prop) (hI : OwnFrom w.heap.size I) (hX : OwnFrom w.heap.size X) (h0 : I [] w) (a₁ : α → Act)
    (hassign : ∀ (l : Nat) (x : α) (W : World) (K : Act → World → Prop), K (a₁ x) W → assign.wpIn (F.inRound l) (n - 1 - 1) P (Exit.then K (fun _ _ _ => False)) { tmps := (ps.zip (encs x)).foldl (fun t (p, v) => t.setIfInBounds p v) a.tmps, defers := [] } W)
    (hbody : ∀ (l : Nat) (pre : List α) (x : α) (W : World), I pre W → pre.length < N → body.wpIn (F.inRound l) (n - 1 - 1) P (leftO w.heap.size (Kb8 n₀ m) I X (pre ++ [x]) W) (a₁ x) W)
    (hdone : ∀ (xs : List α) (W : World), S xs → I xs W → W.heap[w.heap.size]? = some (.deferred (some [])) → Q .normal { a with defers := { target := .collected w.heap.size, args := #[] } :: a.defers } W)
    (hstop : ∀ (pre : List α) (W : World), Sp pre → X pre W → W.heap[w.heap.size]? = some (.deferred (some [])) → Code.ret.wpIn F n P Q { a with defers := { target := .collected w.heap.size, args := #[] } :: a.defers } W) :
    (Code.rangeFunc g ps assign body).wpIn F n P Q a w := by
  refine wpIn_rangeFunc fun fn hfn => ?_
  rw [hro]
  have hbk : BkO w.heap.size (recO fn a.tmps ps assign body w.heap.size .ready none) ((w.alloc (.deferred (some []))).alloc (.loop (recO fn a.tmps ps assign body w.heap.size .ready none))) := by
    refine ⟨?_, (Below.heap_alloc _ _ _ (by simp)).trans (World.alloc_heap_new w _)⟩
    have := World.alloc_heap_new (w.alloc (.deferred (some []))) (.loop (recO fn a.tmps ps assign body w.heap.size .ready none))
    rwa [World.size_alloc] at this
  have hz : ((w.alloc (.deferred (some []))).alloc (.loop (recO fn a.tmps ps assign body w.heap.size .ready none))).heap.size = w.heap.size + 2 := by simp
  have hbl : Below w.heap.size w ((w.alloc (.deferred (some []))).alloc (.loop (recO fn a.tmps ps assign body w.heap.size .ready none))) := ((Below.refl _ w).alloc (Nat.le_refl _) _).alloc (by simp) _
  have hi0 : I [] ((w.alloc (.deferred (some []))).alloc (.loop (recO fn a.tmps ps assign body w.heap.size .ready none))) := hI.alloc _ (hI.alloc _ h0)
  have hen := run_enterLoop_outer (P := P) (w := w) fn a.tmps ps assign body
  change _ = Result.ok _ ((w.alloc (.deferred (some []))).alloc (.loop (recO fn a.tmps ps assign body w.heap.size .ready none))) at hen
  revert hbk hz hbl hi0 hen
  generalize (w.alloc (.deferred (some []))).alloc (.loop (recO fn a.tmps ps assign body w.heap.size .ready none)) = W1
  intro hbk hz hbl hi0 hen
  refine ⟨w.heap.size + 1, [{ target := .collected w.heap.size, args := #[] }], W1, { target := .fn (.func gf) lb, args := #[.func (.yield (w.heap.size + 1)) #[] #[]] }, W1, gf, #[.func (.yield (w.heap.size + 1)) #[] #[]] ++ lb, W1, hen, ?_, ?_, ?_, fun _ => h1, ?_⟩
  · simp only [resolve, hg]
    simp [go_sem]
  · intro f' hf'
    simp [Target.leads] at hf'
    subst hf'
    exact hFg
  · simp [invoke, go_sem, eg]
  · skip
    have far : ∀ {A : World} {row : Option Nat}, (∀ r, row = some r → W1.heap.size ≤ r ∧ ∃ o : Obj, A.heap[r]? = some o ∧ o.isCells = false) → (∀ r, row = some r → w.heap.size ≤ r ∧ ∃ o : Obj, A.heap[r]? = some o ∧ o.isCells = false) ∧ ∀ r, row = some r → w.heap.size + 2 ≤ r :=
      fun h => ⟨fun r e => ⟨by have := (h r e).1; omega, (h r e).2⟩, fun r e => by have := (h r e).1; omega⟩
    refine (hseq (w.heap.size + 1) (fun pre W => I pre W ∧ BkO w.heap.size (recO fn a.tmps ps assign body w.heap.size .ready none) W) (fun pre W => X pre W ∧ BkO w.heap.size (recO fn a.tmps ps assign body w.heap.size .done (some .ret)) W) W1 hbl
      (fun s A C row hs hg' hr => ⟨hI s A C row hs.1 hg' (far hr).1, hs.2.grown hg' (far hr).2⟩) (fun s A C row hs hg' hr => ⟨hX s A C row hs.1 hg' (far hr).1, hs.2.grown hg' (far hr).2⟩) ?_ ⟨hi0, hbk⟩).mono ?_
    · rintro pre x W ⟨hi, hb⟩ hlen
      refine ⟨fn, _, assign, body, run_yield hb.rcd (hps x), roundIn_of_wpIn hfn (hassign _ x W _ ⟨_, run_beginRound hb.rcd rfl, ?_⟩)⟩
      have hb2 : BkO w.heap.size (recO fn a.tmps ps assign body w.heap.size .busy none) (W.putObj (w.heap.size + 1) (.loop (recO fn a.tmps ps assign body w.heap.size .busy none))) := hb.put _
      have hi2 : I pre (W.putObj (w.heap.size + 1) (.loop (recO fn a.tmps ps assign body w.heap.size .busy none))) := hI.putObj _ hi (by omega) hb.rcd rfl
      have hk2 : Kb8 n₀ m W (W.putObj (w.heap.size + 1) (.loop (recO fn a.tmps ps assign body w.heap.size .busy none))) := Kb8.putObj _ _ _ (by omega) hb.rcd rfl
      refine wpIn_mono (hbody _ pre x _ hi2 hlen) ?_
      rintro e a3 W3 hp
      cases e with
      | normal =>
        obtain ⟨q1, q2, q3⟩ := hp
        have hb3 := hb2.keep q1
        exact ⟨_, _, run_endRound none hb3.rcd, .inl ⟨rfl, ⟨hI.putObj _ q3 (by omega) hb3.rcd rfl, hb3.put _⟩, (hk2.trans q2).trans (Kb8.putObj _ _ _ (by omega) hb3.rcd rfl), ((keeps_put _ _ (by omega)).trans (keeps_up q1 (by omega))).trans (keeps_put _ _ (by omega))⟩⟩
      | ret =>
        obtain ⟨q1, q3⟩ := hp
        have hb3 := hb2.keep q1
        exact ⟨_, _, run_endRound (some .ret) hb3.rcd, .inr ⟨rfl, ⟨hX.putObj _ q3 (by omega) hb3.rcd rfl, hb3.put _⟩, ((keeps_put _ _ (by omega)).trans (keeps_up q1 (by omega))).trans (keeps_put _ _ (by omega))⟩⟩
      | exit id => exact hp.elim
      | goto t => exact hp.elim
      | panic ch => exact hp.elim
      | outgrown => exact hp.elim
    · rintro e W2 ⟨⟨v, rfl⟩, (⟨xs, hS, hi, hb⟩ | ⟨pre, hSp, hi, hb⟩)⟩
      · exact ⟨none, _, run_endLoop hb.rcd (by simp [recO]), hdone xs _ hS (hI.putObj _ hi (by omega) hb.rcd rfl) ((World.putObj_heap_other (by omega)).trans hb.dfr)⟩
      · exact ⟨some .ret, _, run_endLoop hb.rcd (by simp [recO]), hstop pre _ hSp (hX.putObj _ hi (by omega) hb.rcd rfl) ((World.putObj_heap_other (by omega)).trans hb.dfr)⟩
end
end Go.Proofs.YtkfcglgikemefaaDoor
