/-
  FOR THE LAST STEP OF EACH STATEMENT: behind a call that has left all that was in memory as it was ('Below'), and whose arguments hold plain data, the row's post-condition stands. No condition.
-/
import Derived.Test.YteigglhhnemngaaGreatDoorRows
import Derived.WalkKit
import Derived.ProofKit
import Derived.OpenShut
import Derived.Below
import Derived.ChangeSame
namespace Go.Proofs.YteigglhhnemngaaGreatDoor
set_option maxRecDepth 100000
open Go.ChangeShapes Go.WideShapes Go.ChangeAt Go.RowKit
theorem lift_own : ownKnob Tryz.prog.godebug = none := by kernel_rfl
section
variable {H : Type} {enc : TypeId × Value → H} {P : Program}
theorem lift_post {f : Func} {s : ChangeSpec} {apart fresh handsOn again : Bool} {W W' : World} {args : Array Value} {v : Value} {ds gs : List (DataW H)} {before pa pv : List MemPlace}
    (whole : DataW.Whole enc P f.params.toList s.vars apart W args.toList ds gs before)
    (results : ∀ (b : Nat) (sp : Nat → Bool) (hd : Bool), DataW.TrodAll enc P W' b sp hd f.resultTypes.toList (v.resultList f.resultTypes.size) (s.fn H (ds ++ gs)).results [])
    (arguments : ∀ sp : Nat → Bool, (∀ p ∈ before, sp p.block = true) → DataW.TrodAll enc P W' 0 sp true f.params.toList args.toList (s.fn H (ds ++ gs)).args pa)
    (variables : ∀ sp : Nat → Bool, (∀ p ∈ before, sp p.block = true) → DataW.TrodVars enc P W' sp s.vars (s.fn H (ds ++ gs)).vars pv)
    (places : before = pa ++ pv) (below : Below W.heap.size W W')
    (fits : ∀ (j : Nat) (t : TypeId) (r : Value), f.resultTypes[j]? = some t → (v.resultList f.resultTypes.size)[j]? = some r → Value.okWide P W' .any 0 t r) :
    s.post enc P f apart fresh handsOn again W args v W' := by
  have old : ∀ p ∈ before, p.block < W.heap.size := fun p hp => whole.lt p hp
  have seen : ∀ p ∈ before, (fun b => decide (b < W.heap.size)) p.block = true := fun p hp => decide_eq_true (old p hp)
  have frame : W.keptBut W' (· ∈ before) := below.frame _
  have wholeCopy := whole
  obtain ⟨_, _, _, _, _, freed, distinct⟩ := wholeCopy
  refine ⟨ds, gs, before, [], pa, pv, whole, results _ _ _, arguments _ seen, variables _ seen, World.keptBut_mono (fun p hp => ⟨hp, ?_⟩) frame, fun _ => ⟨fits, _, _, ([] ++ pa) ++ pv, ⟨[] ++ pa, pv, trodAll_append (arguments _ (fun _ _ => rfl)) (results _ _ _), variables _ (fun _ _ => rfl), rfl, ?_, ?_⟩, ?_⟩⟩
  · have h2 := hp
    rw [places, List.mem_append] at h2
    exact Or.inr h2
  · intro b off hp
    have inn : MemPlace.cell b off ∈ before := by rw [places]; simpa using hp
    have e := below.frozen (p := ⟨b, off, none⟩) (old _ inn)
    exact e.trans (freed b off inn)
  · intro ha
    have d := distinct ha
    rw [places] at d
    simpa using d
  · intro p hp _
    rw [places]
    simpa using hp
end
end Go.Proofs.YteigglhhnemngaaGreatDoor
