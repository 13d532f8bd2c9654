/-
  FOR THE CARDS OF LAYER 12: what the rows lay of the tables of event and of the library, cell by cell (Ek); the door's own heap meets it. No condition.
-/
import Derived.Test.YtkfcglgikemefaaDoorWj
import Derived.Test.YtkfcglgikemefaaDoorLift
import Derived.Test.YtkfcglgikemefaaDoorCards
import Derived.Test.YtkfcglgikemefaaDoorTie
import Derived.Lib.LaidTab
import Derived.LaidMore
import Derived.Stop.Joined
import Derived.SevenTiedAt
namespace Go.Proofs.YtkfcglgikemefaaDoor
set_option maxRecDepth 100000
open Go.ChangeShapes Go.WideShapes Go.ChangeAt Go.RowKit Go.WideElems Go.WideMaps
set_option linter.unusedVariables false
theorem gEv : Tryd.prog.globalNamed "seesaw/event.names" = some 0 := by kernel_rfl
theorem tEv : (Tryd.prog.globals[0]?).map (·.type) = some 161 := by kernel_rfl
def evTab : List (List UInt8) := [nmL 0, nmL 1, nmL 2, nmL 3, nmL 4, nmL 5, nmL 6, nmL 7, nmL 8, nmL 9, nmL 10, nmL 11, nmL 12, nmL 13]
theorem evTab_is : (Rows.laid_seesaw_event_names : DataW Unit) = .agg (evTab.map (fun r => DataW.lit (.string r))) := by rfl
theorem nm_of {W : World} {cs0 : Array Value} {f0 : Nat} {p0 : List MemPlace} {nm : String} {g : Nat} (hg0 : Tryd.prog.globalNamed nm = some g) (hv0 : W.var? Tryd.prog nm = some cs0)
    (hd0 : DataW.trod (fun _ => ()) Tryd.prog W 0 (fun _ => true) false f0 161 cs0.toList = some (.agg (evTab.map (fun r => DataW.lit (.string r))), p0)) : ∀ k, k < 14 → W.cell? ⟨g, k, none⟩ = some (.string (bsW (nmL k))) := by
  obtain ⟨xs, m1, rfl, hx1, hlen, hn, hel⟩ := DataW.trod_array Tryd.underlying161 hd0
  have c1 : Tryd.prog.cellsOf 9 = 1 := by kernel_rfl
  have hcell := World.var?_cell hg0 hv0
  have hx2 := congrArg Prod.fst hx1
  have hx3 : evTab.map (fun r => DataW.lit (.string r)) = xs.map (·.1) := DataW.agg.inj hx2
  have hx9 : xs.length = 14 := hn
  intro k hk
  have h1 := hel k hk
  have hxk : xs[k]? = some xs[k] := List.getElem?_eq_getElem (by omega)
  rw [hxk, c1] at h1
  obtain ⟨t, hc, hy, _⟩ := DataW.trod_string Tryd.underlying9 h1
  have hl : evTab[k]? = some (nmL k) := by
    have : k = 0 ∨ k = 1 ∨ k = 2 ∨ k = 3 ∨ k = 4 ∨ k = 5 ∨ k = 6 ∨ k = 7 ∨ k = 8 ∨ k = 9 ∨ k = 10 ∨ k = 11 ∨ k = 12 ∨ k = 13 := by omega
    rcases this with rfl | rfl | rfl | rfl | rfl | rfl | rfl | rfl | rfl | rfl | rfl | rfl | rfl | rfl <;> rfl
  have e1 : (xs.map (·.1))[k]? = some (DataW.lit (.string (nmL k))) := by rw [← hx3, List.getElem?_map, hl]; rfl
  rw [List.getElem?_map, hxk, hy] at e1
  have e2 : t.data.toList = nmL k := by
    have h5 := Option.some.inj e1
    have h6 : DataW.lit (Lit.string t.data.toList) = DataW.lit (Lit.string (nmL k)) := h5
    injection h6 with h7
    injection h7
  have e3 : t = bsW (nmL k) := by rw [← e2, bsW_of]
  have hat : ((List.drop (k * 1) cs0.toList).take 1)[0]? = some (.string t) := by rw [hc]; rfl
  rw [List.getElem?_take_of_lt (by omega), List.getElem?_drop, Nat.mul_one, Nat.add_zero] at hat
  rw [hcell, ← Array.getElem?_toList, hat, e3]
theorem ek_of_laid13 {W : World} (h : laidMetH Tryd.prog [("seesaw/event.names", Rows.laid_seesaw_event_names)] W) : Ek W := by
  rw [MakeChecks.laidMetH_plain _ _ _ (by kernel_rfl)] at h
  obtain ⟨ps, ⟨g4, t4, cs4, f4, p4, q4, hg4, ht4, hv4, hd4, _, _⟩, _⟩ := h
  obtain rfl := Option.some.inj (gEv.symm.trans hg4)
  obtain rfl := Option.some.inj (tEv.symm.trans ht4)
  exact ⟨nm_of gEv hv4 hd4⟩
theorem door_met13 (os : Os) (args : Array Value) : laidMetH Tryd.prog [("seesaw/event.names", Rows.laid_seesaw_event_names)] ((World.doorLaid Tryd.prog 400 os).forCall (fun _ _ => 0) ⟨#[], args, []⟩).memory :=
  laidMetH_of_parts3 (fuel := 8) (laidMet_of_run' 8 (by kernel_rfl) (by kernel_rfl)) (by kernel_rfl) (by kernel_rfl)
theorem lit_range2 {n : Int} (h : (Lit.int .i64 n).wf = true) : -9223372036854775808 ≤ n ∧ n < 9223372036854775808 := by
  have : -9223372036854775808 ≤ n ∧ n ≤ 9223372036854775807 := by simpa [Lit.wf, IntKind.min, IntKind.max, IntKind.signed, IntKind.bits] using h
  omega
end Go.Proofs.YtkfcglgikemefaaDoor
