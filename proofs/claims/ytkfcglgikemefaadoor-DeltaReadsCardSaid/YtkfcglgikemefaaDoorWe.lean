/-
  A LOOP OVER AN ITERATOR WHOSE ASSIGNMENT LAYS A BOX OF ITS OWN, by whatever the rounds must keep (a predicate that joins, and that does not look at the loop's own record); what a round keeps here: what lay below, and all rows of one type (KT). No function of the program. Conditions: as they stand.
-/
import Derived.Test.YtkfcglgikemefaaDoorLf
import Derived.Test.YtkfcglgikemefaaDoorWc
namespace Go.Proofs.YtkfcglgikemefaaDoor
set_option maxRecDepth 100000
open Go.RowKit Go.Shelf
set_option linter.unusedVariables false
/-- What a round keeps: what lay below n₀, and each row of the type T. -/
structure KT (n₀ : Nat) (T : TypeId) (W W' : World) : Prop where
  low : Below n₀ W W'
  row : ∀ (i : Nat) (cs : Array Value) (f : Nat × Nat), W.heap[i]? = some (.cells cs T f) → W'.heap[i]? = some (.cells cs T f)
section
variable {n₀ : Nat} {T : TypeId}
theorem KT.refl (W : World) : KT n₀ T W W := ⟨Below.refl _ _, fun _ _ _ h => h⟩
theorem KT.trans {A B C : World} (h : KT n₀ T A B) (k : KT n₀ T B C) : KT n₀ T A C := ⟨h.low.trans k.low, fun i cs f hA => k.row i cs f (h.row i cs f hA)⟩
theorem KT.of_below {A B : World} (h : Below A.heap.size A B) (hn : n₀ ≤ A.heap.size) : KT n₀ T A B := ⟨h.mono hn, fun i cs f hA => (h.block i (Array.getElem?_eq_some_iff.1 hA).1).trans hA⟩
theorem KT.alloc {A : World} (o : Obj) (hn : n₀ ≤ A.heap.size) : KT n₀ T A (A.alloc o) := .of_below ((Below.refl _ _).alloc (Nat.le_refl _) o) hn
theorem KT.set {A : World} {g i : Nat} (u : Value) (h1 : n₀ ≤ g) {cs : Array Value} {t : TypeId} {f : Nat × Nat} (hg : A.heap[g]? = some (.cells cs t f)) (ht : t ≠ T) : KT n₀ T A (A.setCell ⟨g, i, none⟩ u) :=
  ⟨(Below.refl n₀ A).setCell (p := ⟨g, i, none⟩) h1 u, fun k cs' f' hA => (Below.heap_setCell A ⟨g, i, none⟩ u k (by
    rintro rfl
    rw [hg] at hA
    cases hA
    exact ht rfl)).trans hA⟩
theorem KT.putObj {W : World} {l : Nat} (o o' : Obj) (hn : n₀ ≤ l) (h : W.heap[l]? = some o) (hc : o.isCells = false) : KT n₀ T W (W.putObj l o') :=
  ⟨(Below.refl n₀ W).grown (grownBy_putObj' W l o') (by have := (Array.getElem?_eq_some_iff.1 h).1; omega) (fun k e => by cases e; omega), fun k cs f hA => by
    by_cases hkl : k = l
    · subst hkl
      rw [h] at hA
      cases hA
      cases hc
    · exact (World.putObj_heap_other hkl).trans hA⟩
end
section
variable {F : Fence} {n : Nat} {P : Program}
/-- A loop over an iterator whose assignment lays a box of its own. -/
theorem loopT {α : Type} {Kp : World → World → Prop} (kT : ∀ {A B C : World}, Kp A B → Kp B C → Kp A C) {g : Operand} {ps : Array Tmp} {assign body : Code} {Q : Exit → Act → World → Prop} {a : Act} {w : World} (hro : F.round = none) (h1 : 1 ≤ n) {gf : Nat} {lb : Array Value} (hg : a.eval g = .func (.func gf) #[] lb) (hFg : F.fn gf) (eg : ∀ args w, (callFunc gf args).run P w = .ok (.enter gf args) w)
    {encs : α → Array Value} {n₀ : Nat} (kP : ∀ {W : World} {l : Nat} (o o' : Obj), n₀ ≤ l → W.heap[l]? = some o → o.isCells = false → Kp W (W.putObj l o')) {S Sp : List α → Prop} {N : Nat} (hseq : SeqO F (n - 1) P gf lb encs Kp S Sp N w) (hn₀ : n₀ ≤ w.heap.size) (hps : ∀ x, (encs x).size = ps.size)
    (I X : List α → World → Prop) (hI : OwnFrom w.heap.size I) (hX : OwnFrom w.heap.size X) (h0 : I [] w) (a₁ : α → Nat → Act) (I₁ : List α → α → Nat → World → Prop) (hI₁ : OwnFrom w.heap.size fun (s : List α × α × Nat) => I₁ s.1 s.2.1 s.2.2)
    (hassign : ∀ (l : Nat) (pre : List α) (x : α) (W : World) (K : Act → World → Prop), I pre W → w.heap.size + 2 ≤ W.heap.size → (∀ b Wa, KeepsFrom w.heap.size W Wa → Kp W Wa → I₁ pre x b Wa → K (a₁ x b) Wa) → assign.wpIn (F.inRound l) (n - 1 - 1) P (Exit.then K (fun _ _ _ => False)) { tmps := (ps.zip (encs x)).foldl (fun t (p, v) => t.setIfInBounds p v) a.tmps, defers := [] } W)
    (hbody : ∀ (l : Nat) (pre : List α) (x : α) (b : Nat) (W : World), I₁ pre x b W → pre.length < N → body.wpIn (F.inRound l) (n - 1 - 1) P (leftO w.heap.size Kp I X (pre ++ [x]) W) (a₁ x b) W)
    (hdone : ∀ (xs : List α) (W : World), S xs → I xs W → W.heap[w.heap.size]? = some (.deferred (some [])) → Q .normal { a with defers := { target := .collected w.heap.size, args := #[] } :: a.defers } W)
    (hstop : ∀ (pre : List α) (W : World), Sp pre → X pre W → W.heap[w.heap.size]? = some (.deferred (some [])) → Code.ret.wpIn F n P Q { a with defers := { target := .collected w.heap.size, args := #[] } :: a.defers } W) :
    (Code.rangeFunc g ps assign body).wpIn F n P Q a w := by
  refine wpIn_rangeFunc fun fn hfn => ?_
  rw [hro]
  have hbk : BkO w.heap.size (recO fn a.tmps ps assign body w.heap.size .ready none) ((w.alloc (.deferred (some []))).alloc (.loop (recO fn a.tmps ps assign body w.heap.size .ready none))) := by
    refine ⟨?_, (Below.heap_alloc _ _ _ (by simp)).trans (World.alloc_heap_new w _)⟩
    have := World.alloc_heap_new (w.alloc (.deferred (some []))) (.loop (recO fn a.tmps ps assign body w.heap.size .ready none))
    rwa [World.size_alloc] at this
  have hz : ((w.alloc (.deferred (some []))).alloc (.loop (recO fn a.tmps ps assign body w.heap.size .ready none))).heap.size = w.heap.size + 2 := by simp
  have hbl : Below w.heap.size w ((w.alloc (.deferred (some []))).alloc (.loop (recO fn a.tmps ps assign body w.heap.size .ready none))) := ((Below.refl _ w).alloc (Nat.le_refl _) _).alloc (by simp) _
  have hi0 : I [] ((w.alloc (.deferred (some []))).alloc (.loop (recO fn a.tmps ps assign body w.heap.size .ready none))) := hI.alloc _ (hI.alloc _ h0)
  have hen := run_enterLoop_outer (P := P) (w := w) fn a.tmps ps assign body
  change _ = Result.ok _ ((w.alloc (.deferred (some []))).alloc (.loop (recO fn a.tmps ps assign body w.heap.size .ready none))) at hen
  revert hbk hz hbl hi0 hen
  generalize (w.alloc (.deferred (some []))).alloc (.loop (recO fn a.tmps ps assign body w.heap.size .ready none)) = W1
  intro hbk hz hbl hi0 hen
  refine ⟨w.heap.size + 1, [{ target := .collected w.heap.size, args := #[] }], W1, { target := .fn (.func gf) lb, args := #[.func (.yield (w.heap.size + 1)) #[] #[]] }, W1, gf, #[.func (.yield (w.heap.size + 1)) #[] #[]] ++ lb, W1, hen, ?_, ?_, ?_, fun _ => h1, ?_⟩
  · simp only [resolve, hg]
    simp [go_sem]
  · intro f' hf'
    simp [Target.leads] at hf'
    subst hf'
    exact hFg
  · simp [invoke, go_sem, eg]
  · skip
    have far : ∀ {A : World} {row : Option Nat}, (∀ r, row = some r → W1.heap.size ≤ r ∧ ∃ o : Obj, A.heap[r]? = some o ∧ o.isCells = false) → (∀ r, row = some r → w.heap.size ≤ r ∧ ∃ o : Obj, A.heap[r]? = some o ∧ o.isCells = false) ∧ ∀ r, row = some r → w.heap.size + 2 ≤ r :=
      fun h => ⟨fun r e => ⟨by have := (h r e).1; omega, (h r e).2⟩, fun r e => by have := (h r e).1; omega⟩
    refine (hseq (w.heap.size + 1) (fun pre W => I pre W ∧ BkO w.heap.size (recO fn a.tmps ps assign body w.heap.size .ready none) W) (fun pre W => X pre W ∧ BkO w.heap.size (recO fn a.tmps ps assign body w.heap.size .done (some .ret)) W) W1 hbl
      (fun s A C row hs hg' hr => ⟨hI s A C row hs.1 hg' (far hr).1, hs.2.grown hg' (far hr).2⟩) (fun s A C row hs hg' hr => ⟨hX s A C row hs.1 hg' (far hr).1, hs.2.grown hg' (far hr).2⟩) ?_ ⟨hi0, hbk⟩).mono ?_
    · rintro pre x W ⟨hi, hb⟩ hlen
      have hlt1 := (Array.getElem?_eq_some_iff.1 hb.rcd).1
      refine ⟨fn, _, assign, body, run_yield hb.rcd (hps x), roundIn_of_wpIn hfn (hassign _ pre x W _ hi (by omega) ?_)⟩
      intro bb Wa kWa kbWa hi1
      have hba := hb.keep kWa
      refine ⟨_, run_beginRound hba.rcd rfl, ?_⟩
      have hb2 : BkO w.heap.size (recO fn a.tmps ps assign body w.heap.size .busy none) (Wa.putObj (w.heap.size + 1) (.loop (recO fn a.tmps ps assign body w.heap.size .busy none))) := hba.put _
      have hi2 : I₁ pre x bb (Wa.putObj (w.heap.size + 1) (.loop (recO fn a.tmps ps assign body w.heap.size .busy none))) := hI₁.putObj (s := (pre, x, bb)) _ hi1 (by omega) hba.rcd rfl
      have hk2 : Kp W (Wa.putObj (w.heap.size + 1) (.loop (recO fn a.tmps ps assign body w.heap.size .busy none))) := kT kbWa (kP _ _ (by omega) hba.rcd rfl)
      have hkp : KeepsFrom W1.heap.size W (Wa.putObj (w.heap.size + 1) (.loop (recO fn a.tmps ps assign body w.heap.size .busy none))) := (keeps_up kWa (by omega)).trans (keeps_put _ _ (by omega))
      refine wpIn_mono (hbody _ pre x bb _ hi2 hlen) ?_
      rintro e a3 W3 hp
      cases e with
      | normal =>
        obtain ⟨q1, q2, q3⟩ := hp
        have hb3 := hb2.keep q1
        exact ⟨_, _, run_endRound none hb3.rcd, .inl ⟨rfl, ⟨hI.putObj _ q3 (by omega) hb3.rcd rfl, hb3.put _⟩, kT (kT hk2 q2) (kP _ _ (by omega) hb3.rcd rfl), (hkp.trans (keeps_up q1 (by omega))).trans (keeps_put _ _ (by omega))⟩⟩
      | ret =>
        obtain ⟨q1, q3⟩ := hp
        have hb3 := hb2.keep q1
        exact ⟨_, _, run_endRound (some .ret) hb3.rcd, .inr ⟨rfl, ⟨hX.putObj _ q3 (by omega) hb3.rcd rfl, hb3.put _⟩, (hkp.trans (keeps_up q1 (by omega))).trans (keeps_put _ _ (by omega))⟩⟩
      | exit id => exact hp.elim
      | goto t => exact hp.elim
      | panic ch => exact hp.elim
      | outgrown => exact hp.elim
    · rintro e W2 ⟨⟨v, rfl⟩, (⟨xs, hS, hi, hb⟩ | ⟨pre, hSp, hi, hb⟩)⟩
      · exact ⟨none, _, run_endLoop hb.rcd (by simp [recO]), hdone xs _ hS (hI.putObj _ hi (by omega) hb.rcd rfl) ((World.putObj_heap_other (by omega)).trans hb.dfr)⟩
      · exact ⟨some .ret, _, run_endLoop hb.rcd (by simp [recO]), hstop pre _ hSp (hX.putObj _ hi (by omega) hb.rcd rfl) ((World.putObj_heap_other (by omega)).trans hb.dfr)⟩
end
end Go.Proofs.YtkfcglgikemefaaDoor
