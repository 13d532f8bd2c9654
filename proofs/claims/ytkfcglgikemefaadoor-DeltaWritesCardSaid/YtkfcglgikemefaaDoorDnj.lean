/-
  FOR THE CARDS OF LAYERS 13 TO 15: rows that lay the document's own event's table beside event's. No condition.
-/
import Derived.Test.YtkfcglgikemefaaDoorWs
import Derived.Test.YtkfcglgikemefaaDoorYa
namespace Go.Proofs.YtkfcglgikemefaaDoor
set_option maxRecDepth 100000
open Go.ChangeShapes Go.WideShapes Go.ChangeAt Go.RowKit Go.WideElems Go.WideMaps
set_option linter.unusedVariables false
theorem gRef14 : Tryd.prog.globalNamed "seesaw/seesawref12.names" = some 1 := by kernel_rfl
theorem tRef14 : (Tryd.prog.globals[1]?).map (·.type) = some 161 := by kernel_rfl
theorem ek_of_laid14 {W : World} (h : laidMetH Tryd.prog [("seesaw/seesawref12.names", Rows.laid_seesaw_seesawref12_names), ("seesaw/event.names", Rows.laid_seesaw_event_names)] W) : Ek W := by
  rw [MakeChecks.laidMetH_plain _ _ _ (by kernel_rfl)] at h
  obtain ⟨ps, ⟨_, _, _, _, _, _, _, _, _, _, ⟨g4, t4, cs4, f4, p4, q4, hg4, ht4, hv4, hd4, _, _⟩, _⟩, _⟩ := h
  obtain rfl := Option.some.inj (gEv.symm.trans hg4)
  obtain rfl := Option.some.inj (tEv.symm.trans ht4)
  exact ⟨nm_of gEv hv4 hd4⟩
theorem er_of_laid14 {W : World} (h : laidMetH Tryd.prog [("seesaw/seesawref12.names", Rows.laid_seesaw_seesawref12_names), ("seesaw/event.names", Rows.laid_seesaw_event_names)] W) : Er W := by
  rw [MakeChecks.laidMetH_plain _ _ _ (by kernel_rfl)] at h
  obtain ⟨ps, ⟨g4, t4, cs4, f4, p4, q4, hg4, ht4, hv4, hd4, _, _⟩, _⟩ := h
  obtain rfl := Option.some.inj (gRef14.symm.trans hg4)
  obtain rfl := Option.some.inj (tRef14.symm.trans ht4)
  exact ⟨nm_of gRef14 hv4 hd4⟩
theorem door_met14 (os : Os) (args : Array Value) : laidMetH Tryd.prog [("seesaw/seesawref12.names", Rows.laid_seesaw_seesawref12_names), ("seesaw/event.names", Rows.laid_seesaw_event_names)] ((World.doorLaid Tryd.prog 400 os).forCall (fun _ _ => 0) ⟨#[], args, []⟩).memory :=
  laidMetH_of_parts3 (fuel := 8) (laidMet_of_run' 8 (by kernel_rfl) (by kernel_rfl)) (by kernel_rfl) (by kernel_rfl)
end Go.Proofs.YtkfcglgikemefaaDoor
