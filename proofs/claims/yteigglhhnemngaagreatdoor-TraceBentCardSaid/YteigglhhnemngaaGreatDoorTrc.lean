/-
  A LOOP OVER AN ITERATOR THAT WRITES TO MEMORY OF ITS OWN BETWEEN THE ROUNDS (Kc: what that leaves alone): its contract (SeqC), and the loop's law off it, for bodies that always go on, whose assignment lays a box. No function of the program. Conditions: as they stand.
-/
import Derived.Test.YteigglhhnemngaaGreatDoorQ04
namespace Go.Proofs.YteigglhhnemngaaGreatDoor
set_option maxRecDepth 100000
open Go.RowKit Go.Shelf
set_option linter.unusedVariables false
def Stays {α : Type} (Kc : World → World → Prop) (J : List α → World → Prop) : Prop := ∀ s A C, J s A → Kc A C → J s C
def SeqC {α : Type} (F : Fence) (n : Nat) (P : Program) (g : Nat) (lb : Array Value) (encs : α → Array Value) (Kp Kc : World → World → Prop) (S : List α → World → Prop) (N : Nat) (w : World) : Prop :=
  ∀ (l : Nat) (J : List α → World → Prop) (W : World), Below w.heap.size w W → Stays Kc J →
    (∀ pre x W1, J pre W1 → pre.length < N → YieldAt F (n - 1) P l (encs x) W1 fun e W' => e = .returned (.bool true) ∧ J (pre ++ [x]) W' ∧ Kp W1 W') →
    J [] W → CallsIn F n P g (#[.func (.yield l) #[] #[]] ++ lb) W fun e W' => (∃ v, e = .returned v) ∧ ∃ xs, S xs W' ∧ J xs W'
section
variable {F : Fence} {n : Nat} {P : Program}
theorem BkO.stays {B : Nat} {r : Loop} {Kc : World → World → Prop} (hK : ∀ (A C : World) (i : Nat) (o : _root_.Go.Obj), Kc A C → A.heap[i]? = some o → o.isCells = false → C.heap[i]? = some o) {A C : World} (h : BkO B r A) (k : Kc A C) : BkO B r C := ⟨hK _ _ _ _ k h.rcd rfl, hK _ _ _ _ k h.dfr rfl⟩
theorem loopC {α : Type} {Kp Kc : World → World → Prop} (kT : ∀ {A B C : World}, Kp A B → Kp B C → Kp A C) (hK : ∀ (A C : World) (i : Nat) (o : _root_.Go.Obj), Kc A C → A.heap[i]? = some o → o.isCells = false → C.heap[i]? = some o) {g : Operand} {ps : Array Tmp} {assign body : Code} {Q : Exit → Act → World → Prop} {a : Act} {w : World} (hro : F.round = none) (h1 : 1 ≤ n) {gf : Nat} {lb : Array Value} (hg : a.eval g = .func (.func gf) #[] lb) (hFg : F.fn gf) (eg : ∀ args w, (callFunc gf args).run P w = .ok (.enter gf args) w)
    {encs : α → Array Value} {n₀ : Nat} (kP : ∀ {W : World} {l : Nat} (o o' : Obj), n₀ ≤ l → W.heap[l]? = some o → o.isCells = false → Kp W (W.putObj l o')) {S : List α → World → Prop} {N : Nat} (hS : OwnFrom w.heap.size S) (hseq : SeqC F (n - 1) P gf lb encs Kp Kc S N w) (hn₀ : n₀ ≤ w.heap.size) (hps : ∀ x, (encs x).size = ps.size)
    (I : List α → World → Prop) (hI : OwnFrom w.heap.size I) (hIc : Stays Kc I) (h0 : I [] w) (a₁ : α → Nat → Act) (I₁ : List α → α → Nat → World → Prop) (hI₁ : OwnFrom w.heap.size fun (s : List α × α × Nat) => I₁ s.1 s.2.1 s.2.2)
    (hassign : ∀ (l : Nat) (pre : List α) (x : α) (W : World) (K : Act → World → Prop), I pre W → w.heap.size + 2 ≤ W.heap.size → (∀ b Wa, KeepsFrom w.heap.size W Wa → Kp W Wa → I₁ pre x b Wa → K (a₁ x b) Wa) → assign.wpIn (F.inRound l) (n - 1 - 1) P (Exit.then K (fun _ _ _ => False)) { tmps := (ps.zip (encs x)).foldl (fun t (p, v) => t.setIfInBounds p v) a.tmps, defers := [] } W)
    (hbody : ∀ (l : Nat) (pre : List α) (x : α) (b : Nat) (W : World), I₁ pre x b W → pre.length < N → body.wpIn (F.inRound l) (n - 1 - 1) P (leftO w.heap.size Kp I (fun _ _ => False) (pre ++ [x]) W) (a₁ x b) W)
    (hdone : ∀ (xs : List α) (W : World), S xs W → I xs W → W.heap[w.heap.size]? = some (.deferred (some [])) → Q .normal { a with defers := { target := .collected w.heap.size, args := #[] } :: a.defers } W) :
    (Code.rangeFunc g ps assign body).wpIn F n P Q a w := by
  refine wpIn_rangeFunc fun fn hfn => ?_
  rw [hro]
  have hbk : BkO w.heap.size (recO fn a.tmps ps assign body w.heap.size .ready none) ((w.alloc (.deferred (some []))).alloc (.loop (recO fn a.tmps ps assign body w.heap.size .ready none))) := by
    refine ⟨?_, (Below.heap_alloc _ _ _ (by simp)).trans (World.alloc_heap_new w _)⟩
    have := World.alloc_heap_new (w.alloc (.deferred (some []))) (.loop (recO fn a.tmps ps assign body w.heap.size .ready none))
    rwa [World.size_alloc] at this
  have hz : ((w.alloc (.deferred (some []))).alloc (.loop (recO fn a.tmps ps assign body w.heap.size .ready none))).heap.size = w.heap.size + 2 := by simp
  have hbl : Below w.heap.size w ((w.alloc (.deferred (some []))).alloc (.loop (recO fn a.tmps ps assign body w.heap.size .ready none))) := ((Below.refl _ w).alloc (Nat.le_refl _) _).alloc (by simp) _
  have hi0 : I [] ((w.alloc (.deferred (some []))).alloc (.loop (recO fn a.tmps ps assign body w.heap.size .ready none))) := hI.alloc _ (hI.alloc _ h0)
  have hen := run_enterLoop_outer (P := P) (w := w) fn a.tmps ps assign body
  change _ = Result.ok _ ((w.alloc (.deferred (some []))).alloc (.loop (recO fn a.tmps ps assign body w.heap.size .ready none))) at hen
  revert hbk hz hbl hi0 hen
  generalize (w.alloc (.deferred (some []))).alloc (.loop (recO fn a.tmps ps assign body w.heap.size .ready none)) = W1
  intro hbk hz hbl hi0 hen
  refine ⟨w.heap.size + 1, [{ target := .collected w.heap.size, args := #[] }], W1, { target := .fn (.func gf) lb, args := #[.func (.yield (w.heap.size + 1)) #[] #[]] }, W1, gf, #[.func (.yield (w.heap.size + 1)) #[] #[]] ++ lb, W1, hen, ?_, ?_, ?_, fun _ => h1, ?_⟩
  · simp only [resolve, hg]
    simp [go_sem]
  · intro f' hf'
    simp [Target.leads] at hf'
    subst hf'
    exact hFg
  · simp [invoke, go_sem, eg]
  · skip
    refine (hseq (w.heap.size + 1) (fun pre W => (I pre W ∧ w.heap.size + 2 ≤ W.heap.size) ∧ BkO w.heap.size (recO fn a.tmps ps assign body w.heap.size .ready none) W) W1 hbl
      (fun s A C hs hk => ⟨⟨hIc _ _ _ hs.1.1 hk, ?_⟩, hs.2.stays hK hk⟩) ?_ ⟨⟨hi0, by omega⟩, hbk⟩).mono ?_
    · have := (Array.getElem?_eq_some_iff.1 (hs.2.stays hK hk).rcd).1
      omega
    · rintro pre x W ⟨⟨hi, hlw⟩, hb⟩ hlen
      have hlt1 := (Array.getElem?_eq_some_iff.1 hb.rcd).1
      refine ⟨fn, _, assign, body, run_yield hb.rcd (hps x), roundIn_of_wpIn hfn (hassign _ pre x W _ hi (by omega) ?_)⟩
      intro bb Wa kWa kbWa hi1
      have hba := hb.keep kWa
      refine ⟨_, run_beginRound hba.rcd rfl, ?_⟩
      have hb2 : BkO w.heap.size (recO fn a.tmps ps assign body w.heap.size .busy none) (Wa.putObj (w.heap.size + 1) (.loop (recO fn a.tmps ps assign body w.heap.size .busy none))) := hba.put _
      have hi2 : I₁ pre x bb (Wa.putObj (w.heap.size + 1) (.loop (recO fn a.tmps ps assign body w.heap.size .busy none))) := hI₁.putObj (s := (pre, x, bb)) _ hi1 (by omega) hba.rcd rfl
      have hk2 : Kp W (Wa.putObj (w.heap.size + 1) (.loop (recO fn a.tmps ps assign body w.heap.size .busy none))) := kT kbWa (kP _ _ (by omega) hba.rcd rfl)
      refine wpIn_mono (hbody _ pre x bb _ hi2 hlen) ?_
      rintro e a3 W3 hp
      cases e with
      | normal =>
        obtain ⟨q1, q2, q3⟩ := hp
        have hb3 := hb2.keep q1
        have hl3 := (Array.getElem?_eq_some_iff.1 hb3.rcd).1
        exact ⟨_, _, run_endRound none hb3.rcd, rfl, ⟨⟨hI.putObj _ q3 (by omega) hb3.rcd rfl, by rw [World.putObj_size]; omega⟩, hb3.put _⟩, kT (kT hk2 q2) (kP _ _ (by omega) hb3.rcd rfl)⟩
      | ret => exact hp.2.elim
      | exit id => exact hp.elim
      | goto t => exact hp.elim
      | panic ch => exact hp.elim
      | outgrown => exact hp.elim
    · rintro e W2 ⟨⟨v, rfl⟩, xs, hS2, ⟨hi, _⟩, hb⟩
      exact ⟨none, _, run_endLoop hb.rcd (by simp [recO]), hdone xs _ (hS.putObj _ hS2 (by omega) hb.rcd rfl) (hI.putObj _ hi (by omega) hb.rcd rfl) ((World.putObj_heap_other (by omega)).trans hb.dfr)⟩
end
end Go.Proofs.YteigglhhnemngaaGreatDoor
