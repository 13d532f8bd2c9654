/-
  SEVERAL TEXTS IN ONE (a claim has sixty files at most): We, Ri, Rg, Rt, Wf: the head of each stands ahead of it. No condition but theirs.
-/
import Derived.Test.YteigglhhnemngaaGreatDoorQ03
import Derived.Test.YteigglhhnemngaaGreatDoorRows
import Derived.Orders
import Derived.Below
import Derived.WalkKit
namespace Go.Proofs.YteigglhhnemngaaGreatDoor
set_option maxRecDepth 100000
open Go.RowKit Go.Shelf
set_option linter.unusedVariables false
structure KT (n₀ : Nat) (T : TypeId) (W W' : World) : Prop where
  low : Below n₀ W W'
  row : ∀ (i : Nat) (cs : Array Value) (f : Nat × Nat), W.heap[i]? = some (.cells cs T f) → W'.heap[i]? = some (.cells cs T f)
section
variable {n₀ : Nat} {T : TypeId}
theorem KT.refl (W : World) : KT n₀ T W W := ⟨Below.refl _ _, fun _ _ _ h => h⟩
theorem KT.trans {A B C : World} (h : KT n₀ T A B) (k : KT n₀ T B C) : KT n₀ T A C := ⟨h.low.trans k.low, fun i cs f hA => k.row i cs f (h.row i cs f hA)⟩
theorem KT.of_below {A B : World} (h : Below A.heap.size A B) (hn : n₀ ≤ A.heap.size) : KT n₀ T A B := ⟨h.mono hn, fun i cs f hA => (h.block i (Array.getElem?_eq_some_iff.1 hA).1).trans hA⟩
theorem KT.alloc {A : World} (o : Obj) (hn : n₀ ≤ A.heap.size) : KT n₀ T A (A.alloc o) := .of_below ((Below.refl _ _).alloc (Nat.le_refl _) o) hn
theorem KT.set {A : World} {g i : Nat} (u : Value) (h1 : n₀ ≤ g) {cs : Array Value} {t : TypeId} {f : Nat × Nat} (hg : A.heap[g]? = some (.cells cs t f)) (ht : t ≠ T) : KT n₀ T A (A.setCell ⟨g, i, none⟩ u) :=
  ⟨(Below.refl n₀ A).setCell (p := ⟨g, i, none⟩) h1 u, fun k cs' f' hA => (Below.heap_setCell A ⟨g, i, none⟩ u k (by
    rintro rfl
    rw [hg] at hA
    cases hA
    exact ht rfl)).trans hA⟩
theorem KT.putObj {W : World} {l : Nat} (o o' : Obj) (hn : n₀ ≤ l) (h : W.heap[l]? = some o) (hc : o.isCells = false) : KT n₀ T W (W.putObj l o') :=
  ⟨(Below.refl n₀ W).grown (grownBy_putObj' W l o') (by have := (Array.getElem?_eq_some_iff.1 h).1; omega) (fun k e => by cases e; omega), fun k cs f hA => by
    by_cases hkl : k = l
    · subst hkl
      rw [h] at hA
      cases hA
      cases hc
    · exact (World.putObj_heap_other hkl).trans hA⟩
end
section
variable {F : Fence} {n : Nat} {P : Program}
theorem loopT {α : Type} {Kp : World → World → Prop} (kT : ∀ {A B C : World}, Kp A B → Kp B C → Kp A C) {g : Operand} {ps : Array Tmp} {assign body : Code} {Q : Exit → Act → World → Prop} {a : Act} {w : World} (hro : F.round = none) (h1 : 1 ≤ n) {gf : Nat} {lb : Array Value} (hg : a.eval g = .func (.func gf) #[] lb) (hFg : F.fn gf) (eg : ∀ args w, (callFunc gf args).run P w = .ok (.enter gf args) w)
    {encs : α → Array Value} {n₀ : Nat} (kP : ∀ {W : World} {l : Nat} (o o' : Obj), n₀ ≤ l → W.heap[l]? = some o → o.isCells = false → Kp W (W.putObj l o')) {S Sp : List α → Prop} {N : Nat} (hseq : SeqO F (n - 1) P gf lb encs Kp S Sp N w) (hn₀ : n₀ ≤ w.heap.size) (hps : ∀ x, (encs x).size = ps.size)
    (I X : List α → World → Prop) (hI : OwnFrom w.heap.size I) (hX : OwnFrom w.heap.size X) (h0 : I [] w) (a₁ : α → Nat → Act) (I₁ : List α → α → Nat → World → Prop) (hI₁ : OwnFrom w.heap.size fun (s : List α × α × Nat) => I₁ s.1 s.2.1 s.2.2)
    (hassign : ∀ (l : Nat) (pre : List α) (x : α) (W : World) (K : Act → World → Prop), I pre W → w.heap.size + 2 ≤ W.heap.size → (∀ b Wa, KeepsFrom w.heap.size W Wa → Kp W Wa → I₁ pre x b Wa → K (a₁ x b) Wa) → assign.wpIn (F.inRound l) (n - 1 - 1) P (Exit.then K (fun _ _ _ => False)) { tmps := (ps.zip (encs x)).foldl (fun t (p, v) => t.setIfInBounds p v) a.tmps, defers := [] } W)
    (hbody : ∀ (l : Nat) (pre : List α) (x : α) (b : Nat) (W : World), I₁ pre x b W → pre.length < N → body.wpIn (F.inRound l) (n - 1 - 1) P (leftO w.heap.size Kp I X (pre ++ [x]) W) (a₁ x b) W)
    (hdone : ∀ (xs : List α) (W : World), S xs → I xs W → W.heap[w.heap.size]? = some (.deferred (some [])) → Q .normal { a with defers := { target := .collected w.heap.size, args := #[] } :: a.defers } W)
    (hstop : ∀ (pre : List α) (W : World), Sp pre → X pre W → W.heap[w.heap.size]? = some (.deferred (some [])) → Code.ret.wpIn F n P Q { a with defers := { target := .collected w.heap.size, args := #[] } :: a.defers } W) :
    (Code.rangeFunc g ps assign body).wpIn F n P Q a w := by
  refine wpIn_rangeFunc fun fn hfn => ?_
  rw [hro]
  have hbk : BkO w.heap.size (recO fn a.tmps ps assign body w.heap.size .ready none) ((w.alloc (.deferred (some []))).alloc (.loop (recO fn a.tmps ps assign body w.heap.size .ready none))) := by
    refine ⟨?_, (Below.heap_alloc _ _ _ (by simp)).trans (World.alloc_heap_new w _)⟩
    have := World.alloc_heap_new (w.alloc (.deferred (some []))) (.loop (recO fn a.tmps ps assign body w.heap.size .ready none))
    rwa [World.size_alloc] at this
  have hz : ((w.alloc (.deferred (some []))).alloc (.loop (recO fn a.tmps ps assign body w.heap.size .ready none))).heap.size = w.heap.size + 2 := by simp
  have hbl : Below w.heap.size w ((w.alloc (.deferred (some []))).alloc (.loop (recO fn a.tmps ps assign body w.heap.size .ready none))) := ((Below.refl _ w).alloc (Nat.le_refl _) _).alloc (by simp) _
  have hi0 : I [] ((w.alloc (.deferred (some []))).alloc (.loop (recO fn a.tmps ps assign body w.heap.size .ready none))) := hI.alloc _ (hI.alloc _ h0)
  have hen := run_enterLoop_outer (P := P) (w := w) fn a.tmps ps assign body
  change _ = Result.ok _ ((w.alloc (.deferred (some []))).alloc (.loop (recO fn a.tmps ps assign body w.heap.size .ready none))) at hen
  revert hbk hz hbl hi0 hen
  generalize (w.alloc (.deferred (some []))).alloc (.loop (recO fn a.tmps ps assign body w.heap.size .ready none)) = W1
  intro hbk hz hbl hi0 hen
  refine ⟨w.heap.size + 1, [{ target := .collected w.heap.size, args := #[] }], W1, { target := .fn (.func gf) lb, args := #[.func (.yield (w.heap.size + 1)) #[] #[]] }, W1, gf, #[.func (.yield (w.heap.size + 1)) #[] #[]] ++ lb, W1, hen, ?_, ?_, ?_, fun _ => h1, ?_⟩
  · simp only [resolve, hg]
    simp [go_sem]
  · intro f' hf'
    simp [Target.leads] at hf'
    subst hf'
    exact hFg
  · simp [invoke, go_sem, eg]
  · skip
    have far : ∀ {A : World} {row : Option Nat}, (∀ r, row = some r → W1.heap.size ≤ r ∧ ∃ o : Obj, A.heap[r]? = some o ∧ o.isCells = false) → (∀ r, row = some r → w.heap.size ≤ r ∧ ∃ o : Obj, A.heap[r]? = some o ∧ o.isCells = false) ∧ ∀ r, row = some r → w.heap.size + 2 ≤ r :=
      fun h => ⟨fun r e => ⟨by have := (h r e).1; omega, (h r e).2⟩, fun r e => by have := (h r e).1; omega⟩
    refine (hseq (w.heap.size + 1) (fun pre W => I pre W ∧ BkO w.heap.size (recO fn a.tmps ps assign body w.heap.size .ready none) W) (fun pre W => X pre W ∧ BkO w.heap.size (recO fn a.tmps ps assign body w.heap.size .done (some .ret)) W) W1 hbl
      (fun s A C row hs hg' hr => ⟨hI s A C row hs.1 hg' (far hr).1, hs.2.grown hg' (far hr).2⟩) (fun s A C row hs hg' hr => ⟨hX s A C row hs.1 hg' (far hr).1, hs.2.grown hg' (far hr).2⟩) ?_ ⟨hi0, hbk⟩).mono ?_
    · rintro pre x W ⟨hi, hb⟩ hlen
      have hlt1 := (Array.getElem?_eq_some_iff.1 hb.rcd).1
      refine ⟨fn, _, assign, body, run_yield hb.rcd (hps x), roundIn_of_wpIn hfn (hassign _ pre x W _ hi (by omega) ?_)⟩
      intro bb Wa kWa kbWa hi1
      have hba := hb.keep kWa
      refine ⟨_, run_beginRound hba.rcd rfl, ?_⟩
      have hb2 : BkO w.heap.size (recO fn a.tmps ps assign body w.heap.size .busy none) (Wa.putObj (w.heap.size + 1) (.loop (recO fn a.tmps ps assign body w.heap.size .busy none))) := hba.put _
      have hi2 : I₁ pre x bb (Wa.putObj (w.heap.size + 1) (.loop (recO fn a.tmps ps assign body w.heap.size .busy none))) := hI₁.putObj (s := (pre, x, bb)) _ hi1 (by omega) hba.rcd rfl
      have hk2 : Kp W (Wa.putObj (w.heap.size + 1) (.loop (recO fn a.tmps ps assign body w.heap.size .busy none))) := kT kbWa (kP _ _ (by omega) hba.rcd rfl)
      have hkp : KeepsFrom W1.heap.size W (Wa.putObj (w.heap.size + 1) (.loop (recO fn a.tmps ps assign body w.heap.size .busy none))) := (keeps_up kWa (by omega)).trans (keeps_put _ _ (by omega))
      refine wpIn_mono (hbody _ pre x bb _ hi2 hlen) ?_
      rintro e a3 W3 hp
      cases e with
      | normal =>
        obtain ⟨q1, q2, q3⟩ := hp
        have hb3 := hb2.keep q1
        exact ⟨_, _, run_endRound none hb3.rcd, .inl ⟨rfl, ⟨hI.putObj _ q3 (by omega) hb3.rcd rfl, hb3.put _⟩, kT (kT hk2 q2) (kP _ _ (by omega) hb3.rcd rfl), (hkp.trans (keeps_up q1 (by omega))).trans (keeps_put _ _ (by omega))⟩⟩
      | ret =>
        obtain ⟨q1, q3⟩ := hp
        have hb3 := hb2.keep q1
        exact ⟨_, _, run_endRound (some .ret) hb3.rcd, .inr ⟨rfl, ⟨hX.putObj _ q3 (by omega) hb3.rcd rfl, hb3.put _⟩, (hkp.trans (keeps_up q1 (by omega))).trans (keeps_put _ _ (by omega))⟩⟩
      | exit id => exact hp.elim
      | goto t => exact hp.elim
      | panic ch => exact hp.elim
      | outgrown => exact hp.elim
    · rintro e W2 ⟨⟨v, rfl⟩, (⟨xs, hS, hi, hb⟩ | ⟨pre, hSp, hi, hb⟩)⟩
      · exact ⟨none, _, run_endLoop hb.rcd (by simp [recO]), hdone xs _ hS (hI.putObj _ hi (by omega) hb.rcd rfl) ((World.putObj_heap_other (by omega)).trans hb.dfr)⟩
      · exact ⟨some .ret, _, run_endLoop hb.rcd (by simp [recO]), hstop pre _ hSp (hX.putObj _ hi (by omega) hb.rcd rfl) ((World.putObj_heap_other (by omega)).trans hb.dfr)⟩
end
end Go.Proofs.YteigglhhnemngaaGreatDoor
namespace Go.Proofs.YteigglhhnemngaaGreatDoor
set_option maxRecDepth 100000
open Go.RowKit
set_option linter.unusedVariables false
def cntR (p : Nat → Bool) : Nat → Nat
  | 0 => 0
  | n + 1 => cntR p n + (if p n then 1 else 0)
theorem cntR_same (p q : Nat → Bool) : ∀ n, (∀ j, j < n → p j = q j) → cntR p n = cntR q n := by
  intro n
  induction n with
  | zero => intro _; rfl
  | succ n ih => intro h; rw [cntR, cntR, ih fun j hj => h j (by omega), h n (by omega)]
theorem cntR_less (p q : Nat → Bool) (i : Nat) : ∀ n, i < n → (∀ j, j ≠ i → q j = p j) → p i = true → q i = false → cntR q n + 1 = cntR p n := by
  intro n
  induction n with
  | zero => intro h; omega
  | succ n ih =>
    intro h hs hp hq
    rw [cntR, cntR]
    by_cases hi : i = n
    · subst hi
      rw [hp, hq, cntR_same q p i fun j hj => hs j (by omega)]
      simp
    · rw [hs n (by omega), ← ih (by omega) hs hp hq]
      omega
theorem cntR_zero (p : Nat → Bool) : ∀ n, cntR p n = 0 → ∀ j, j < n → p j = false := by
  intro n
  induction n with
  | zero => intro _ j hj; omega
  | succ n ih =>
    intro h j hj
    rw [cntR] at h
    by_cases hj' : j = n
    · subst hj'
      cases hp : p j with
      | false => rfl
      | true => rw [hp] at h; simp at h
    · exact ih (by omega) j (by omega)
section
variable {P : Program} {ops : Array Oper} {Q : Exit → Act → World → Prop} {md : Region.Mode}
theorem ready_of {listed : Array Bool} {i : Nat} (h : i ∈ Region.ready md ops listed) : i < ops.size ∧ listed.getD i true = false ∧ ∀ o, ops[i]? = some o → ∀ e ∈ o.after.toList, Region.binds md e = true → listed.getD e.on false = true := by
  unfold Region.ready at h
  rw [List.mem_filter, List.mem_range, Bool.and_eq_true, Bool.not_eq_true'] at h
  refine ⟨h.1, h.2.1, fun o ho e he hb => ?_⟩
  have h2 := h.2.2
  rw [ho] at h2
  simp only [Option.map_some, Option.getD_some] at h2
  have h3 := Array.all_eq_true'.1 h2 e (by simpa using he)
  simpa [hb] using h3
theorem ready_none {listed : Array Bool} (h : ∀ j, j < ops.size → listed.getD j true = true) : Region.ready md ops listed = [] := by
  unfold Region.ready
  rw [List.filter_eq_nil_iff]
  intro i hi
  rw [h i (by simpa using hi)]
  simp
theorem ready_some {listed : Array Bool} (hw : ∀ i o, ops[i]? = some o → ∀ e ∈ o.after.toList, Region.binds md e = true → e.on < i) (h : Region.ready md ops listed = []) (hl : listed.size = ops.size) : ∀ j, j < ops.size → listed.getD j true = true := by
  intro j
  induction j using Nat.strongRecOn with
  | _ j ih =>
    intro hj
    cases hp : listed.getD j true with
    | true => rfl
    | false =>
      have hm : j ∈ Region.ready md ops listed := by
        unfold Region.ready
        rw [List.mem_filter, List.mem_range, Bool.and_eq_true, Bool.not_eq_true']
        refine ⟨hj, hp, ?_⟩
        rw [Array.getElem?_eq_getElem hj]
        simp only [Option.map_some, Option.getD_some]
        refine Array.all_eq_true'.2 fun e he => ?_
        cases hb : Region.binds md e with
        | false => rfl
        | true =>
          have hlt := hw j _ (Array.getElem?_eq_getElem hj) e (by simpa using he) hb
          have := ih e.on hlt (by omega)
          rw [Array.getD_eq_getD_getElem?, Array.getElem?_eq_getElem (by omega)] at this ⊢
          simpa using this
      rw [h] at hm
      cases hm
theorem wpAny_inv {I : Array Bool → Act → World → Prop} (hsz : ∀ listed a w, I listed a w → listed.size = ops.size)
    (hstep : ∀ listed a w, I listed a w → ∀ i ∈ Region.ready md ops listed, wpOp P ops Q i (fun a' w' => I (listed.setIfInBounds i true) a' w') a w)
    (hend : ∀ listed a w, I listed a w → Region.ready md ops listed = [] → Q .normal a w) :
    ∀ (fuel : Nat) (listed : Array Bool) (a : Act) (w : World), I listed a w → cntR (fun j => !listed.getD j true) ops.size ≤ fuel → wpAny P md ops Q fuel listed a w := by
  intro fuel
  induction fuel with
  | zero =>
    intro listed a w h hc
    have hr : Region.ready md ops listed = [] := ready_none fun j hj => by
      have := cntR_zero _ _ (Nat.le_zero.1 hc) j hj
      simpa using this
    exact ⟨hr, hend _ _ _ h hr⟩
  | succ fuel ih =>
    intro listed a w h hc
    refine ⟨hend _ _ _ h, fun i hi => wpOp_mono (fun a' w' h' => ih _ a' w' h' ?_) (hstep _ _ _ h i hi)⟩
    obtain ⟨h1, h2, _⟩ := ready_of hi
    have hs := hsz _ _ _ h
    have := cntR_less (fun j => !listed.getD j true) (fun j => !(listed.setIfInBounds i true).getD j true) i ops.size h1 (fun j hj => by
      show (!(listed.setIfInBounds i true).getD j true) = !listed.getD j true
      rw [Array.getD_eq_getD_getElem?, Array.getD_eq_getD_getElem?, Array.getElem?_setIfInBounds_ne (by omega)]) (by simpa using h2) (by
      show (!(listed.setIfInBounds i true).getD i true) = false
      rw [Array.getD_eq_getD_getElem?, Array.getElem?_setIfInBounds_self_of_lt (by omega)]
      rfl)
    omega
def fr (pre us post : List Value) : Act := ⟨(pre ++ us ++ post).toArray, []⟩
end
end Go.Proofs.YteigglhhnemngaaGreatDoor
namespace Go.Proofs.YteigglhhnemngaaGreatDoor
set_option maxRecDepth 100000
open Go.RowKit
set_option linter.unusedVariables false
def putAll : Array Value → List Nat → List Value → Array Value
  | T, d :: ds, u :: us => putAll (T.setIfInBounds d u) ds us
  | T, _, _ => T
theorem putAll_size : ∀ (ds : List Nat) (us : List Value) (T : Array Value), (putAll T ds us).size = T.size := by
  intro ds
  induction ds with
  | nil => intro us T; cases us <;> rfl
  | cons d ds ih => intro us T; cases us with
    | nil => rfl
    | cons u us => rw [putAll, ih]; simp
theorem putAll_comm : ∀ (ds : List Nat) (us : List Value) (T : Array Value) (d : Nat) (v : Value), d ∉ ds → putAll (T.setIfInBounds d v) ds us = (putAll T ds us).setIfInBounds d v := by
  intro ds
  induction ds with
  | nil => intro us T d v _; cases us <;> rfl
  | cons e ds ih => intro us T d v h; cases us with
    | nil => rfl
    | cons u us =>
      rw [putAll, putAll, Array.setIfInBounds_comm _ _ (by intro hc; exact h (by rw [hc]; exact List.mem_cons_self)), ih _ _ _ _ (fun hc => h (List.mem_cons_of_mem _ hc))]
theorem putAll_set : ∀ (ds : List Nat) (us : List Value) (T : Array Value) (i : Nat) (v : Value) (h : i < ds.length), ds.length = us.length → ds.Nodup → putAll T ds (us.set i v) = (putAll T ds us).setIfInBounds ds[i] v := by
  intro ds
  induction ds with
  | nil => intro us T i v h; exact absurd h (by simp)
  | cons d ds ih =>
    intro us T i v h hl hn
    cases us with
    | nil => cases hl
    | cons u us =>
      rw [List.nodup_cons] at hn
      cases i with
      | zero =>
        rw [List.set_cons_zero, putAll, putAll, List.getElem_cons_zero, ← putAll_comm _ _ _ _ _ hn.1]
        simp
      | succ i =>
        rw [List.set_cons_succ, putAll, putAll, ih _ _ _ _ (by simpa using h) (by simpa using hl) hn.2, List.getElem_cons_succ]
theorem putAll_far : ∀ (ds : List Nat) (us : List Value) (T : Array Value) (t : Nat), t ∉ ds → (putAll T ds us)[t]? = T[t]? := by
  intro ds
  induction ds with
  | nil => intro us T t _; cases us <;> rfl
  | cons d ds ih => intro us T t h; cases us with
    | nil => rfl
    | cons u us =>
      rw [putAll, ih _ _ _ (fun hc => h (List.mem_cons_of_mem _ hc)), Array.getElem?_setIfInBounds_ne (by intro hc; exact h (by rw [hc]; exact List.mem_cons_self))]
theorem putAll_at (T : Array Value) (ds : List Nat) (us : List Value) (i : Nat) (h : i < ds.length) (hl : ds.length = us.length) (hn : ds.Nodup) (hT : ds[i] < T.size) : (putAll T ds us)[ds[i]]? = us[i]? := by
  have h1 := putAll_set ds us T i (us[i]'(by omega)) h hl hn
  rw [List.set_getElem_self] at h1
  rw [h1, Array.getElem?_setIfInBounds_self_of_lt (by rw [putAll_size]; exact hT), List.getElem?_eq_getElem (by omega)]
theorem putAll_id : ∀ (ds : List Nat) (T : Array Value), ds.Nodup → (∀ d ∈ ds, d < T.size) → putAll T ds (ds.map fun d => T.getD d undef) = T := by
  intro ds
  induction ds with
  | nil => intro T _ _; rfl
  | cons d ds ih =>
    intro T hn hd
    have h0 := hd d List.mem_cons_self
    have hs : T.setIfInBounds d (T.getD d undef) = T := by
      apply Array.ext_getElem?
      intro i
      by_cases hi : i = d
      · subst hi
        rw [Array.getElem?_setIfInBounds_self_of_lt h0, Array.getD_eq_getD_getElem?, Array.getElem?_eq_getElem h0]
        rfl
      · rw [Array.getElem?_setIfInBounds_ne (fun hc => hi hc.symm)]
    rw [List.nodup_cons] at hn
    rw [List.map_cons, putAll, hs]
    exact ih T hn.2 fun x hx => hd x (List.mem_cons_of_mem _ hx)
section
variable {P : Program} {ops : Array Oper} {Q : Exit → Act → World → Prop}
theorem getD_both {l : Array Bool} {i : Nat} (h : i < l.size) (b c : Bool) : l.getD i b = l.getD i c := by
  rw [Array.getD_eq_getD_getElem?, Array.getD_eq_getD_getElem?, Array.getElem?_eq_getElem h]
  rfl
end
end Go.Proofs.YteigglhhnemngaaGreatDoor
namespace Go.Proofs.YteigglhhnemngaaGreatDoor
set_option maxRecDepth 100000
open Go.RowKit
set_option linter.unusedVariables false
def reachT (ops : Array Oper) : Nat → Nat → List Nat
  | 0, _ => []
  | f + 1, i => match ops[i]? with
    | some o => (o.after.toList.filter fun e => Region.binds .any e).flatMap fun e => e.on :: reachT ops f e.on
    | none => []
theorem reachT_done {ops : Array Oper} {D : Nat → Prop} (hc : ∀ i o, D i → ops[i]? = some o → ∀ e ∈ o.after.toList, Region.binds .any e = true → D e.on) : ∀ (f i : Nat) (o : Oper), ops[i]? = some o → (∀ e ∈ o.after.toList, Region.binds .any e = true → D e.on) → ∀ j ∈ reachT ops f i, D j := by
  intro f
  induction f with
  | zero => intro i o _ _ j hj; simp [reachT] at hj
  | succ f ih =>
    intro i o ho hd j hj
    rw [reachT, ho] at hj
    dsimp only at hj
    rw [List.mem_flatMap] at hj
    obtain ⟨e, he, hj⟩ := hj
    rw [List.mem_filter] at he
    have h1 := hd e he.1 he.2
    rcases List.mem_cons.1 hj with rfl | hj
    · exact h1
    · cases ho2 : ops[e.on]? with
      | none =>
        cases f with
        | zero => simp [reachT] at hj
        | succ f => rw [reachT, ho2] at hj; simp at hj
      | some o2 => exact ih e.on o2 ho2 (hc e.on o2 h1 ho2) j hj
def okTail (ds : List Nat) (ops : Array Oper) : Bool := decide (ds.length ≤ ops.size) && (List.range ops.size).all fun i => match ops[i]? with
  | some o => o.guard.isNone && (o.after.all fun e => !Region.binds .any e || decide (e.on < i)) && (decide (ds.length ≤ i) || o.dst == ds[i]?) && (decide (i < ds.length) || ((List.range ds.length).all (fun j => (reachT ops 6 i).contains j) && (decide (i ≤ ds.length) || o.after.any fun e => Region.binds .any e && e.on + 1 == i)))
  | none => false
section
variable {P : Program} {ops : Array Oper} {Q : Exit → Act → World → Prop}
theorem wpList_at {k : Nat} (h : k < ops.size) {a : Act} {w : World} : wpList P ops Q (ops.toList.drop k) a w = wpOp P ops Q k (wpList P ops Q (ops.toList.drop (k + 1))) a w := by
  have h1 : ops.toList.drop k = ops[k] :: ops.toList.drop (k + 1) := by
    rw [List.drop_eq_getElem_cons (by simpa using h)]
    simp
  rw [h1]
  unfold wpOp
  rw [Array.getElem?_eq_getElem h, wpList]
def TI (S : Nat → Nat → Nat → Value → World → Prop) (ds : List Nat) (W : World) (T : Array Value) (P : Program) (ops : Array Oper) (Q : Exit → Act → World → Prop) (listed : Array Bool) (a : Act) (w : World) : Prop := listed.size = ops.size ∧
  (((∀ j, ds.length ≤ j → j < ops.size → listed.getD j true = false) ∧ (∀ i o, i < ds.length → listed.getD i true = true → ops[i]? = some o → ∀ e ∈ o.after.toList, Region.binds .any e = true → listed.getD e.on true = true) ∧ ∃ (us : List Value) (lo hi : Nat → Nat), us.length = ds.length ∧ a = ⟨putAll T ds us, []⟩ ∧ Below W.heap.size W w ∧ (∀ i, i < ds.length → listed.getD i true = true → W.heap.size ≤ lo i ∧ lo i ≤ hi i ∧ hi i ≤ w.heap.size ∧ S i (lo i) (hi i) (us.getD i undef) w) ∧
      ∀ i j, i < ds.length → j < ds.length → listed.getD i true = true → listed.getD j true = true → i ≠ j → hi i ≤ lo j ∨ hi j ≤ lo i) ∨
   ∃ k, ds.length ≤ k ∧ k ≤ ops.size ∧ (∀ j, j < ops.size → listed.getD j true = decide (j < k)) ∧ wpList P ops Q (ops.toList.drop k) a w)
theorem listed_set {l : Array Bool} {i j : Nat} (hi : i < l.size) (b : Bool) : (l.setIfInBounds i true).getD j b = if j = i then true else l.getD j b := by
  split
  · next h =>
    subst h
    rw [Array.getD_eq_getD_getElem?, Array.getElem?_setIfInBounds_self_of_lt hi]
    rfl
  · next h =>
    rw [Array.getD_eq_getD_getElem?, Array.getElem?_setIfInBounds_ne (by omega), ← Array.getD_eq_getD_getElem?]
theorem wp_region_tail {id : Nat} (S : Nat → Nat → Nat → Value → World → Prop) (ds : List Nat) (W : World) (T : Array Value) (hn : ds.Nodup) (hd : ∀ d ∈ ds, d < T.size) (hm : P.follows .mixedOrders = true) (hops : okTail ds ops = true)
    (hmono : ∀ i x y v w w', Below W.heap.size W w → y ≤ w.heap.size → Below w.heap.size w w' → S i x y v w → S i x y v w')
    (hstep : ∀ i o, ops[i]? = some o → i < ds.length → ∀ (a : Act) (w : World), (∀ t, t ∉ ds → a.tmps[t]? = T[t]?) → (∀ e ∈ o.after.toList, Region.binds .any e = true → ∃ v x y, a.tmps[ds.getD e.on 0]? = some v ∧ S e.on x y v w) → Below W.heap.size W w →
      ∀ K : Act → World → Prop, (∀ v w', Below w.heap.size w w' → S i w.heap.size w'.heap.size v w' → K (a.put o.dst v) w') → Oper.wp P o a w K Q)
    (hend : ∀ (us : List Value) (lo hi : Nat → Nat) (w : World), us.length = ds.length → Below W.heap.size W w → (∀ i, i < ds.length → W.heap.size ≤ lo i ∧ lo i ≤ hi i ∧ hi i ≤ w.heap.size ∧ S i (lo i) (hi i) (us.getD i undef) w) → (∀ i j, i < ds.length → j < ds.length → i ≠ j → hi i ≤ lo j ∨ hi j ≤ lo i) →
      wpList P ops Q (ops.toList.drop ds.length) ⟨putAll T ds us, []⟩ w) :
    (Code.region id ops true).wp P Q ⟨T, []⟩ W := by
  unfold okTail at hops
  rw [Bool.and_eq_true, decide_eq_true_eq] at hops
  obtain ⟨hsz, hall0⟩ := hops
  have hall : ∀ (i : Nat) (o : Oper), ops[i]? = some o → o.guard = none ∧ (∀ e ∈ o.after.toList, Region.binds .any e = true → e.on < i) ∧ (∀ h : i < ds.length, o.dst = some ds[i]) ∧ (ds.length ≤ i → (∀ j, j < ds.length → j ∈ reachT ops 6 i) ∧ (ds.length < i → ∃ e ∈ o.after.toList, Region.binds .any e = true ∧ e.on + 1 = i)) := by
    intro i o ho
    have hi : i < ops.size := (Array.getElem?_eq_some_iff.1 ho).1
    have h1 := List.all_eq_true.1 hall0 i (by simpa using hi)
    rw [ho] at h1
    simp only [Bool.and_eq_true, Bool.or_eq_true, beq_iff_eq, Option.isNone_iff_eq_none, decide_eq_true_eq] at h1
    obtain ⟨⟨⟨h1, h2⟩, h3⟩, h4⟩ := h1
    refine ⟨h1, fun e he hbn => ?_, fun h => ?_, fun h => ?_⟩
    · have h5 := Array.all_eq_true'.1 h2 e (by simpa using he)
      simpa [hbn] using h5
    · rcases h3 with h3 | h3
      · omega
      · rw [h3, List.getElem?_eq_getElem h]
    · rcases h4 with h4 | h4
      · omega
      · refine ⟨fun j hj => ?_, fun hlt => ?_⟩
        · have h5 := List.all_eq_true.1 h4.1 j (by simpa using hj)
          simpa using h5
        · rcases h4.2 with h5 | h5
          · omega
          · obtain ⟨e, he, h6⟩ := Array.any_eq_true'.1 h5
            simp only [Bool.and_eq_true, beq_iff_eq] at h6
            exact ⟨e, by simpa using he, h6.1, h6.2⟩
  have hat : ∀ (us : List Value) (i : Nat) (hi : i < ds.length), us.length = ds.length → (putAll T ds us)[ds[i]]? = some (us.getD i undef) := fun us i hi hu => by
    rw [putAll_at T ds us i hi hu.symm hn (hd _ (List.getElem_mem hi)), List.getD_eq_getElem?_getD, List.getElem?_eq_getElem (by omega)]
    rfl
  refine wp_region_any hm ?_
  refine wpAny_inv (I := TI S ds W T P ops Q) (fun _ _ _ h => h.1) ?_ ?_ _ _ _ _ ⟨by simp, .inl ⟨fun j hj hjs => ?_, fun i o hi hl ho => ?_, ds.map (fun d => T.getD d undef), fun _ => 0, fun _ => 0, by simp, by rw [putAll_id ds T hn hd], (Below.refl _ _).drew, fun i hi h => ?_, fun i j hi _ h => ?_⟩⟩ ?_
  · rintro listed a w ⟨hs, h⟩ i hi
    obtain ⟨h1, h2, h3⟩ := ready_of hi
    have ho : ops[i]? = some ops[i] := Array.getElem?_eq_getElem h1
    obtain ⟨hg, hw3, hw1, hw4⟩ := hall i _ ho
    have h2' : listed.getD i true = false := h2
    have hdone : ∀ e ∈ ops[i].after.toList, Region.binds .any e = true → listed.getD e.on true = true := fun e he hbn => by
      have := hw3 e he hbn
      rw [getD_both (by omega) true false]
      exact h3 _ ho e he hbn
    rcases h with ⟨hnl, hcl, us, lo, hi', hu, rfl, hbl, hS, hdj⟩ | ⟨k, hk1, hk2, hkl, hq⟩
    · by_cases hv : i < ds.length
      · have o1 := hw1 hv
        unfold wpOp
        rw [ho]
        have hw : Region.wanted ops[i] (yielded ops (⟨putAll T ds us, []⟩ : Act).tmps) = true := by simp [Region.wanted, hg]
        simp only [hw, if_true]
        refine .inl (hstep i _ ho hv ⟨putAll T ds us, []⟩ w (fun t ht => putAll_far _ _ _ _ ht) (fun e he hbn => ?_) hbl _ fun v w' hb' hv' => ?_)
        · have hlt := hw3 e he hbn
          refine ⟨us.getD e.on undef, lo e.on, hi' e.on, ?_, (hS e.on (by omega) (hdone e he hbn)).2.2.2⟩
          have hge : ds.getD e.on 0 = ds[e.on]'(by omega) := by rw [List.getD_eq_getElem?_getD, List.getElem?_eq_getElem (show e.on < ds.length by omega)]; rfl
          rw [hge]
          exact hat us e.on (by omega) hu
        · refine ⟨by simpa using hs, .inl ⟨fun j hj hjs => ?_, fun i2 o2 hi2 hl2 ho2 e he hbn => ?_, us.set i v, (fun j => if j = i then w.heap.size else lo j), (fun j => if j = i then w'.heap.size else hi' j), by simpa using hu, ?_, hbl.trans (hb'.mono hbl.size), fun j hj hlj => ?_, fun j1 j2 hj1 hj2 hl1 hl2 hne => ?_⟩⟩
          · rw [listed_set (by omega), if_neg (by omega)]
            exact hnl j hj hjs
          · rw [listed_set (by omega)]
            split
            · rfl
            · by_cases h2i : i2 = i
              · subst h2i
                rw [ho] at ho2
                cases ho2
                exact hdone e he hbn
              · rw [listed_set (by omega), if_neg h2i] at hl2
                exact hcl i2 o2 hi2 hl2 ho2 e he hbn
          · rw [o1, putAll_set ds us T i v hv hu.symm hn]
            rfl
          · by_cases hji : j = i
            · subst hji
              rw [List.getD_eq_getElem?_getD, List.getElem?_set_self (by omega)]
              simp only [if_true]
              exact ⟨hbl.size, hb'.size, Nat.le_refl _, hv'⟩
            · rw [List.getD_eq_getElem?_getD, List.getElem?_set_ne (by omega), ← List.getD_eq_getElem?_getD]
              rw [listed_set (by omega), if_neg hji] at hlj
              obtain ⟨s1, s2, s3, s4⟩ := hS j hj hlj
              simp only [if_neg hji]
              exact ⟨s1, s2, Nat.le_trans s3 hb'.size, hmono j _ _ _ w w' hbl s3 hb' s4⟩
          · by_cases e1 : j1 = i
            · have e2 : j2 ≠ i := by omega
              rw [listed_set (by omega), if_neg e2] at hl2
              obtain ⟨s1, s2, s3, s4⟩ := hS j2 hj2 hl2
              simp only [if_pos e1, if_neg e2]
              exact .inr s3
            · rw [listed_set (by omega), if_neg e1] at hl1
              obtain ⟨s1, s2, s3, s4⟩ := hS j1 hj1 hl1
              by_cases e2 : j2 = i
              · simp only [if_neg e1, if_pos e2]
                exact .inl s3
              · rw [listed_set (by omega), if_neg e2] at hl2
                simp only [if_neg e1, if_neg e2]
                exact hdj j1 j2 hj1 hj2 hl1 hl2 hne
      · obtain ⟨w1, w2⟩ := hw4 (by omega)
        have hii : i = ds.length := by
          rcases Nat.lt_or_ge ds.length i with hlt | hge
          · obtain ⟨e, he, hbn, hon⟩ := w2 hlt
            have h5 := hdone e he hbn
            rw [hnl e.on (by omega) (by omega)] at h5
            cases h5
          · omega
        subst hii
        have hle : ∀ j, j < ds.length → listed.getD j true = true := fun j hj => by
          refine (reachT_done (D := fun j => j < ds.length ∧ listed.getD j true = true) (fun i2 o2 h h2 e he hbn => ⟨?_, hcl i2 o2 h.1 h.2 h2 e he hbn⟩) 6 ds.length _ ho (fun e he hbn => ⟨hw3 e he hbn, hdone e he hbn⟩) j (w1 j hj)).2
          have := (hall i2 o2 h2).2.1 e he hbn
          have := h.1
          omega
        have hlist := hend us lo hi' w hu hbl (fun j hj => hS j hj (hle j hj)) fun j1 j2 h1 h2 hne => hdj j1 j2 h1 h2 (hle j1 h1) (hle j2 h2) hne
        rw [wpList_at h1] at hlist
        refine wpOp_mono (fun a' w' hq => ⟨by simpa using hs, .inr ⟨ds.length + 1, by omega, by omega, fun j hj => ?_, hq⟩⟩) hlist
        rw [listed_set (by omega)]
        by_cases hji : j = ds.length
        · rw [if_pos hji, decide_eq_true (by omega)]
        · rw [if_neg hji]
          by_cases hjl : j < ds.length
          · rw [hle j hjl, decide_eq_true (by omega)]
          · rw [hnl j (by omega) hj, decide_eq_false (by omega)]
    · have hik : i = k := by
        have hge : k ≤ i := by
          rcases Nat.lt_or_ge i k with hlt | hge
          · rw [hkl i h1, decide_eq_true hlt] at h2'
            cases h2'
          · exact hge
        rcases Nat.lt_or_ge k i with hlt | hge2
        · obtain ⟨w1, w2⟩ := hw4 (by omega)
          obtain ⟨e, he, hbn, hon⟩ := w2 (by omega)
          have h5 := hdone e he hbn
          rw [hkl e.on (by omega), decide_eq_false (by omega)] at h5
          cases h5
        · omega
      subst hik
      rw [wpList_at h1] at hq
      refine wpOp_mono (fun a' w' hq => ⟨by simpa using hs, .inr ⟨i + 1, by omega, by omega, fun j hj => ?_, hq⟩⟩) hq
      rw [listed_set (by omega)]
      by_cases hji : j = i
      · rw [if_pos hji, decide_eq_true (by omega)]
      · rw [if_neg hji, hkl j hj]
        by_cases hjl : j < i
        · rw [decide_eq_true hjl, decide_eq_true (by omega)]
        · rw [decide_eq_false hjl, decide_eq_false (by omega)]
  · rintro listed a w ⟨hs, h⟩ hr
    have hal := ready_some (fun i o ho => (hall i o ho).2.1) hr hs
    rcases h with ⟨hnl, hcl, us, lo, hi', hu, rfl, hbl, hS, hdj⟩ | ⟨k, hk1, hk2, hkl, hq⟩
    · have hse : ds.length = ops.size := by
        rcases Nat.lt_or_ge ds.length ops.size with hlt | hge
        · have := hal ds.length hlt
          rw [hnl _ (Nat.le_refl _) hlt] at this
          cases this
        · omega
      have hlist := hend us lo hi' w hu hbl (fun j hj => hS j hj (hal j (by omega))) fun j1 j2 h1 h2 hne => hdj j1 j2 h1 h2 (hal j1 (by omega)) (hal j2 (by omega)) hne
      rw [List.drop_eq_nil_of_le (by simp; omega)] at hlist
      exact hlist
    · have hse : k = ops.size := by
        rcases Nat.lt_or_ge k ops.size with hlt | hge
        · have := hal k hlt
          rw [hkl _ hlt, decide_eq_false (by omega)] at this
          cases this
        · omega
      rw [List.drop_eq_nil_of_le (by simp; omega)] at hq
      exact hq
  · rw [Array.getD_eq_getD_getElem?, Array.getElem?_replicate, if_pos hjs]
    rfl
  · rw [Array.getD_eq_getD_getElem?, Array.getElem?_replicate, if_pos (by omega)] at hl
    cases hl
  · rw [Array.getD_eq_getD_getElem?, Array.getElem?_replicate, if_pos (by omega)] at h
    cases h
  · rw [Array.getD_eq_getD_getElem?, Array.getElem?_replicate, if_pos (by omega)] at h
    cases h
  · have hle : ∀ (p : Nat → Bool) n, cntR p n ≤ n := fun p n => by
      induction n with
      | zero => exact Nat.le_refl _
      | succ n ih => rw [cntR]; split <;> omega
    exact hle _ _
end
end Go.Proofs.YteigglhhnemngaaGreatDoor
namespace Go.Proofs.YteigglhhnemngaaGreatDoor
set_option maxRecDepth 100000
open Go.RowKit
set_option linter.unusedVariables false
def fnP : Nat → Nat
  | 0 => 131
  | 1 => 133
  | 2 => 132
  | 3 => 134
  | _ => 135
def partV (p : Part) : Value := .agg #[.func (.func (fnP p.wh)) #[] #[], .int .i64 p.lo, .int .i64 p.hi]
def partC (p : Part) : List Value := [.func (.func (fnP p.wh)) #[] #[], .int .i64 p.lo, .int .i64 p.hi]
structure PBox (w : World) (g : Nat) (p : Part) : Prop where
  c0 : w.cell? ⟨g, 0, none⟩ = some (.func (.func (fnP p.wh)) #[] #[])
  c1 : w.cell? ⟨g, 1, none⟩ = some (.int .i64 p.lo)
  c2 : w.cell? ⟨g, 2, none⟩ = some (.int .i64 p.hi)
theorem PBox.below {w w' : World} {g : Nat} {p : Part} (h : PBox w g p) (hb : Below w.heap.size w w') : PBox w' g p :=
  ⟨(hb.cell (there_blockW h.c0)).trans h.c0, (hb.cell (there_blockW h.c1)).trans h.c1, (hb.cell (there_blockW h.c2)).trans h.c2⟩
def SlP (L : List Part) (v : Value) (w : World) : Prop := (L = [] ∧ v = .slice none 0 0) ∨ ∃ g, v = .slice (some ⟨g, 0, none⟩) L.length L.length ∧ w.heap[g]? = some (.cells (L.flatMap partC).toArray 186 (0, 0))
theorem SlP.below {w w' : World} {L : List Part} {v : Value} (h : SlP L v w) (hb : Below w.heap.size w w') : SlP L v w' := by
  rcases h with h | ⟨g, h1, h2⟩
  · exact .inl h
  · exact .inr ⟨g, h1, (hb.block g (Array.getElem?_eq_some_iff.1 h2).1).trans h2⟩
theorem row_any (v : Value) (A : Option Addr) (n c : Nat) (hv : v = .slice A n c) (w : World) : Calls Tryz.prog 136 #[v] w fun e w' => e = .returned v ∧ w = w' := by
  subst hv
  go_enter Tryz.func136, Tryz.ntmps136
  go_wp2
  go_ret
  exact ⟨rfl, rfl⟩
section
variable {a : Act} {w : World} {K : Act → World → Prop} {Q : Exit → Act → World → Prop} {o : Oper}
theorem w_load (x g : Nat) {p : Part} (ho : o.op = .load 186 (.tmp x)) (hx : a.tmps[x]?.getD undef = .pointer (some ⟨g, 0, none⟩)) (hp : PBox w g p) (hK : K (a.put o.dst (partV p)) w) : Oper.wp Tryz.prog o a w K Q := by
  obtain ⟨dst, op, type, pos, after, guard⟩ := o
  have ho' : op = _ := ho
  subst ho'
  clear ho
  obtain ⟨c0, c1, c2⟩ := hp
  unfold partV at hK
  go_simp
  exact hK
theorem w_sl1 (x : Nat) {p : Part} (ho : o.op = .buildSlice 204 1 #[(0, .tmp x)]) (hx : a.tmps[x]?.getD undef = partV p) (hK : ∀ v w', Below w.heap.size w w' → SlP [p] v w' → K (a.put o.dst v) w') : Oper.wp Tryz.prog o a w K Q := by
  obtain ⟨dst, op, type, pos, after, guard⟩ := o
  have ho' : op = _ := ho
  subst ho'
  clear ho
  unfold partV at hx
  have h2 := hK (.slice (some ⟨w.heap.size, 0, none⟩) 1 1) (w.alloc (.cells (partC p).toArray 186)) ((Below.refl _ _).alloc (Nat.le_refl _) _) (.inr ⟨w.heap.size, rfl, (World.alloc_heap_new w _).trans (by simp)⟩)
  clear hK
  unfold partC at h2
  go_simp
  exact h2
theorem w_sl2 (x y : Nat) {p q : Part} (ho : o.op = .buildSlice 204 2 #[(0, .tmp x), (1, .tmp y)]) (hx : a.tmps[x]?.getD undef = partV p) (hy : a.tmps[y]?.getD undef = partV q) (hK : ∀ v w', Below w.heap.size w w' → SlP [p, q] v w' → K (a.put o.dst v) w') : Oper.wp Tryz.prog o a w K Q := by
  obtain ⟨dst, op, type, pos, after, guard⟩ := o
  have ho' : op = _ := ho
  subst ho'
  clear ho
  unfold partV at hx hy
  have h2 := hK (.slice (some ⟨w.heap.size, 0, none⟩) 2 2) (w.alloc (.cells (partC p ++ partC q).toArray 186)) ((Below.refl _ _).alloc (Nat.le_refl _) _) (.inr ⟨w.heap.size, rfl, (World.alloc_heap_new w _).trans (by simp)⟩)
  clear hK
  unfold partC at h2
  go_simp
  exact h2
theorem w_row (x : Nat) {L : List Part} {v : Value} (ho : o.op = .call { callee := .value (.func 136), args := #[.tmp x], argTypes := #[204] }) (hx : a.tmps[x]?.getD undef = v) (hs : SlP L v w) (hK : K (a.put o.dst v) w) : Oper.wp Tryz.prog o a w K Q := by
  obtain ⟨dst, op, type, pos, after, guard⟩ := o
  have ho' : op = _ := ho
  subst ho'
  clear ho
  obtain ⟨A, n, c, hv⟩ : ∃ A n c, v = .slice A n c := by
    rcases hs with ⟨_, h⟩ | ⟨g, h, _⟩ <;> exact ⟨_, _, _, h⟩
  have hr := row_any v A n c hv w
  clear hs hv
  subst hx
  have h1 := Tryz.func136
  go_simp
  refine hr.mono ?_
  rintro e w' ⟨rfl, rfl⟩
  exact hK
theorem w_row0 (ho : o.op = .call { callee := .value (.func 136), args := #[.const (.slice none 0 0)], argTypes := #[204] }) (hK : K (a.put o.dst (.slice none 0 0)) w) : Oper.wp Tryz.prog o a w K Q := by
  obtain ⟨dst, op, type, pos, after, guard⟩ := o
  have ho' : op = _ := ho
  subst ho'
  clear ho
  have hr := row_any (.slice none 0 0) none 0 0 rfl w
  have h1 := Tryz.func136
  go_simp
  refine hr.mono ?_
  rintro e w' ⟨rfl, rfl⟩
  exact hK
theorem w_build {v : Nat → Value} {A : Nat → Option Addr} {n c : Nat → Nat} (hv : ∀ j, v j = .slice (A j) (n j) (c j)) (ho : o.op = .build 206 #[(1, .tmp 29), (2, .tmp 33), (3, .tmp 37), (4, .tmp 40), (5, .tmp 43), (6, .tmp 46), (7, .tmp 49), (8, .tmp 53), (9, .tmp 56), (10, .tmp 60), (11, .tmp 63), (12, .tmp 64), (13, .tmp 65)])
    (h1 : a.tmps[29]?.getD undef = v 1) (h2 : a.tmps[33]?.getD undef = v 2) (h3 : a.tmps[37]?.getD undef = v 3) (h4 : a.tmps[40]?.getD undef = v 4) (h5 : a.tmps[43]?.getD undef = v 5) (h6 : a.tmps[46]?.getD undef = v 6) (h7 : a.tmps[49]?.getD undef = v 7) (h8 : a.tmps[53]?.getD undef = v 8) (h9 : a.tmps[56]?.getD undef = v 9) (h10 : a.tmps[60]?.getD undef = v 10) (h11 : a.tmps[63]?.getD undef = v 11) (h12 : a.tmps[64]?.getD undef = v 12) (h13 : a.tmps[65]?.getD undef = v 13)
    (hK : K (a.put o.dst (.agg #[.slice none 0 0, v 1, v 2, v 3, v 4, v 5, v 6, v 7, v 8, v 9, v 10, v 11, v 12, v 13])) w) : Oper.wp Tryz.prog o a w K Q := by
  obtain ⟨dst, op, type, pos, after, guard⟩ := o
  have ho' : op = _ := ho
  subst ho'
  clear ho
  rw [hv 1] at h1
  rw [hv 2] at h2
  rw [hv 3] at h3
  rw [hv 4] at h4
  rw [hv 5] at h5
  rw [hv 6] at h6
  rw [hv 7] at h7
  rw [hv 8] at h8
  rw [hv 9] at h9
  rw [hv 10] at h10
  rw [hv 11] at h11
  rw [hv 12] at h12
  rw [hv 13] at h13
  simp only [hv] at hK
  clear hv
  go_simp
  exact hK
theorem w_alloc (ho : o.op = .alloc 206) (hK : K (a.put o.dst (.pointer (some ⟨w.heap.size, 0, none⟩))) (w.alloc (.cells (Array.replicate 14 (.slice none 0 0)) 206))) : Oper.wp Tryz.prog o a w K Q := by
  obtain ⟨dst, op, type, pos, after, guard⟩ := o
  have ho' : op = _ := ho
  subst ho'
  clear ho
  go_simp
  exact hK
end
end Go.Proofs.YteigglhhnemngaaGreatDoor
