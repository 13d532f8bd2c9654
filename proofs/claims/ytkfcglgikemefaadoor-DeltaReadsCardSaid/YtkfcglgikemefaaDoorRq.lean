/-
  A REGION THAT DRAWS ITS ORDER AND LEAVES THE WORLD ALONE, IN A ROUND OF A LOOP OVER AN ITERATOR: what the library says outside a round holds in one, where nothing is deferred: a fence's round is asked by deferred calls alone. No function of the program. Conditions: as they stand.
-/
import Derived.Test.YtkfcglgikemefaaDoorRows
import Derived.Sort.QuietIn
namespace Go.Proofs.YtkfcglgikemefaaDoor
set_option maxRecDepth 100000
open Go.RowKit
set_option linter.unusedVariables false
def noDef (o : Oper) : Bool := match o.op with
  | .defer _ => false
  | _ => true
theorem noDef_of {o : Oper} (h : noDef o = true) : ∀ c, o.op ≠ .defer c := fun c e => by unfold noDef at h; rw [e] at h; cases h
section
variable {F : Fence} {l n : Nat} {P : Program} {ops : Array Oper} {Q : Exit → Act → World → Prop}
/-- One operation that is not deferred: in a round as outside. -/
theorem op_round {o : Oper} {a : Act} {w : World} {K : Act → World → Prop} (hF : F.round = none) (hd : ∀ c, o.op ≠ .defer c) (h : o.wpIn F n P a w K Q) : o.wpIn (F.inRound l) n P a w K Q := by
  obtain ⟨h1, h2⟩ := h
  refine ⟨h1, ?_⟩
  rw [Oper.semAt_eq _ _ _ hd] at h2 ⊢
  exact h2
theorem any_round (hF : F.round = none) (hd : ops.all noDef = true) : ∀ (fuel : Nat) (listed : Array Bool) (a : Act) (w : World), wpAnyIn F n P .any ops Q fuel listed a w → wpAnyIn (F.inRound l) n P .any ops Q fuel listed a w := by
  intro fuel
  induction fuel with
  | zero => intro _ _ _ h; exact h
  | succ fuel ih =>
    intro listed a w h
    refine ⟨h.1, fun i hi => ?_⟩
    have hs := wpOpIn_mono (fun a' w' h' => ih _ a' w' h') (h.2 i hi)
    unfold wpOpIn at hs ⊢
    cases ho : ops[i]? with
    | none => rw [ho] at hs; exact hs
    | some o =>
      rw [ho] at hs
      dsimp only at hs ⊢
      by_cases hw : Region.wanted o (yielded ops a.tmps) = true
      · rw [if_pos hw] at hs ⊢
        exact op_round hF (noDef_of (Array.all_eq_true'.1 hd o (Array.mem_of_getElem? ho))) hs
      · rw [if_neg hw] at hs ⊢
        exact hs
theorem quiet_round {C : World → Prop} {R : Act → Prop} : ∀ (r : List Oper) (a : Act), wpQuietIn (F.inRound l) n P ops C R r a → wpQuietIn F n P ops C R r a := by
  intro r
  induction r with
  | nil => intro a h; exact h
  | cons o r ih =>
    intro a h
    obtain ⟨h1, h2⟩ := h
    refine ⟨h1, ?_⟩
    by_cases hw : Region.wanted o (yielded ops a.tmps) = true
    · rw [if_pos hw] at h2 ⊢
      obtain ⟨v, h3, h4⟩ := h2
      refine ⟨v, fun w hc => ?_, ih _ h4⟩
      have h5 := h3 w hc
      unfold Oper.quietAtIn at h5 ⊢
      generalize (execOp a.eval o).run P w = res at h5 ⊢
      cases res with
      | halt x w' => exact h5
      | ok x w' => cases x <;> exact h5
    · rw [if_neg hw] at h2 ⊢
      exact ih _ h2
theorem wpIn_region_quietR {id : Nat} {a : Act} {w : World} {r : List Oper} (hF : F.round = none) (hro : r.toArray.all noDef = true) (hm : P.follows .mixedOrders = true) (hB : Region.lexB .any r.toArray = true)
    (h : wpQuietIn (F.inRound l) n P r.toArray (fun w' => ∃ n, w' = w.drewN n) (fun a' => ∀ w', (∃ n, w' = w.drewN n) → Q .normal a' w') r a) : (Code.region id r.toArray true).wpIn (F.inRound l) n P Q a w := by
  have hq : wpQuietIn F n P r.toArray (fun w' => ∃ n, w' = w.drewN n) (fun a' => ∀ w', (∃ n, w' = w.drewN n) → Q .normal a' w') r a := quiet_round r a h
  rw [Region.lexB, Bool.and_eq_true] at hB
  have hx : wpAnyQIn F n P .any r.toArray (fun w' => ∃ n, w' = w.drewN n) (fun a' => ∀ w', (∃ n, w' = w.drewN n) → Q .normal a' w') r.length (Array.replicate r.toArray.size false) a :=
    wpAnyQIn_lex hB.1 r 0 _ a (fun j => by simp) (by simpa using hB.2) hq
  have hy := wpAnyIn_of_quiet (Q' := Q) hF (fun a' w' hw' hk => hk w' hw') _ _ _ _ ⟨1, rfl⟩ hx
  have hz := any_round (l := l) hF hro _ _ _ _ hy
  refine wpIn_region_any hm ?_
  rw [List.size_toArray] at hz ⊢
  exact hz
end
end Go.Proofs.YtkfcglgikemefaaDoor
