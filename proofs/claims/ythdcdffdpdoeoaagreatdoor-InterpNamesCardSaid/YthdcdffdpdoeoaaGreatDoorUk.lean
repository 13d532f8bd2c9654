/-
  FOR THE CARDS OF LAYER 6: what the rows lay of code's table, cell by cell. No condition.
-/
import Derived.Test.YthdcdffdpdoeoaaGreatDoorZc
import Derived.Test.YthdcdffdpdoeoaaGreatDoorUl
namespace Go.Proofs.YthdcdffdpdoeoaaGreatDoor
set_option maxRecDepth 100000
open Go.ChangeShapes Go.WideShapes Go.ChangeAt Go.RowKit Go.WideElems Go.WideMaps
set_option linter.unusedVariables false
/-- What each Kind asks, row by row. -/
def kindTab : List (List Bool) := [[false, false, false, false, false], [true, true, false, false, false], [true, true, false, false, false], [false, true, true, false, false], [false, true, false, true, true], [false, true, false, true, false], [false, false, false, false, false], [false, false, false, true, true], [false, true, false, false, false]]
theorem gKinds : Tryz.prog.globalNamed "seesaw/code.kinds" = some 0 := by kernel_rfl
theorem tKinds : (Tryz.prog.globals[0]?).map (·.type) = some 142 := by kernel_rfl
theorem kd_of_laid {W : World} (h : laidMetH Tryz.prog [("seesaw/code.kinds", Rows.laid_seesaw_code_kinds)] W) : Kd W := by
  rw [MakeChecks.laidMetH_plain _ _ _ (by kernel_rfl)] at h
  obtain ⟨ps, ⟨g0, t0, cs0, f0, p0, q0, hg0, ht0, hv0, hd0, _, _⟩, _, _⟩ := h
  obtain rfl := Option.some.inj (gKinds.symm.trans hg0)
  obtain rfl := Option.some.inj (tKinds.symm.trans ht0)
  obtain ⟨xs, m1, rfl, hx1, hlen, hn, hel⟩ := DataW.trod_array Tryz.underlying142 hd0
  have c5 : Tryz.prog.cellsOf 141 = 5 := by kernel_rfl
  have c1 : Tryz.prog.cellsOf 4 = 1 := by kernel_rfl
  have hcell := World.var?_cell hg0 hv0
  have hx2 := congrArg Prod.fst hx1
  have hx3 : kindTab.map (fun r => DataW.agg (r.map fun b => DataW.lit (.bool b))) = xs.map (·.1) := DataW.agg.inj hx2
  have key : ∀ (k i : Nat) (b : Bool), (kindTab[k]?.bind (·[i]?)) = some b → k < 9 → i < 5 → W.cell? ⟨0, k * 5 + i, none⟩ = some (.bool b) := by
    intro k i b hb hk hi
    obtain ⟨r, hr, hri⟩ := Option.bind_eq_some_iff.1 hb
    have h1 := hel k hk
    have hxk : xs[k]? = some xs[k] := List.getElem?_eq_getElem (by omega)
    rw [hxk, c5] at h1
    obtain ⟨ys, m2, rfl, hy1, hyl, hyn, hyel⟩ := DataW.trod_struct Tryz.underlying141 h1
    have e1 : (xs.map (·.1))[k]? = some (DataW.agg (r.map fun b => DataW.lit (.bool b))) := by rw [← hx3, List.getElem?_map, hr]; rfl
    rw [List.getElem?_map, hxk, hy1] at e1
    have e2 : ys.map (·.1) = r.map fun b => DataW.lit (.bool b) := DataW.agg.inj (Option.some.inj e1)
    have hy5 : ys.length = 5 := hyn
    have e3 : (ys.map (·.1))[i]? = some (DataW.lit (.bool b)) := by rw [e2, List.getElem?_map, hri]; rfl
    rw [List.getElem?_map] at e3
    obtain ⟨y, hyi, hy⟩ := Option.map_eq_some_iff.1 e3
    obtain ⟨f, hf, ft, fo⟩ : ∃ f, (#[(⟨"to", 4, 0, false, "", "seesaw/code", 0⟩ : Field), ⟨"a", 4, 1, false, "", "seesaw/code", 1⟩, ⟨"b", 4, 2, false, "", "seesaw/code", 2⟩, ⟨"body", 4, 3, false, "", "seesaw/code", 3⟩, ⟨"orElse", 4, 4, false, "", "seesaw/code", 4⟩])[i]? = some f ∧ f.type = 4 ∧ f.offset = i := by
      match i, hi with
      | 0, _ => exact ⟨_, rfl, rfl, rfl⟩
      | 1, _ => exact ⟨_, rfl, rfl, rfl⟩
      | 2, _ => exact ⟨_, rfl, rfl, rfl⟩
      | 3, _ => exact ⟨_, rfl, rfl, rfl⟩
      | 4, _ => exact ⟨_, rfl, rfl, rfl⟩
    have h2 := hyel i f hf
    rw [ft, fo, c1, hyi] at h2
    obtain ⟨b', hc, hy'⟩ := DataW.trod_bool Tryz.underlying4 h2
    rw [hy'] at hy
    have hbb : b' = b := by simpa using hy
    subst hbb
    have hat : ((List.drop i (List.take 5 (List.drop (k * 5) cs0.toList))).take 1)[0]? = some (.bool b') := by rw [hc]; rfl
    rw [List.getElem?_take_of_lt (by omega), List.getElem?_drop, List.getElem?_take_of_lt (by omega), List.getElem?_drop] at hat
    rw [hcell, ← Array.getElem?_toList]
    exact hat
  intro k hk
  match k, hk with
  | 0, _ => exact ⟨key 0 0 _ rfl (by omega) (by omega), key 0 1 _ rfl (by omega) (by omega), key 0 2 _ rfl (by omega) (by omega), key 0 3 _ rfl (by omega) (by omega), key 0 4 _ rfl (by omega) (by omega)⟩
  | 1, _ => exact ⟨key 1 0 _ rfl (by omega) (by omega), key 1 1 _ rfl (by omega) (by omega), key 1 2 _ rfl (by omega) (by omega), key 1 3 _ rfl (by omega) (by omega), key 1 4 _ rfl (by omega) (by omega)⟩
  | 2, _ => exact ⟨key 2 0 _ rfl (by omega) (by omega), key 2 1 _ rfl (by omega) (by omega), key 2 2 _ rfl (by omega) (by omega), key 2 3 _ rfl (by omega) (by omega), key 2 4 _ rfl (by omega) (by omega)⟩
  | 3, _ => exact ⟨key 3 0 _ rfl (by omega) (by omega), key 3 1 _ rfl (by omega) (by omega), key 3 2 _ rfl (by omega) (by omega), key 3 3 _ rfl (by omega) (by omega), key 3 4 _ rfl (by omega) (by omega)⟩
  | 4, _ => exact ⟨key 4 0 _ rfl (by omega) (by omega), key 4 1 _ rfl (by omega) (by omega), key 4 2 _ rfl (by omega) (by omega), key 4 3 _ rfl (by omega) (by omega), key 4 4 _ rfl (by omega) (by omega)⟩
  | 5, _ => exact ⟨key 5 0 _ rfl (by omega) (by omega), key 5 1 _ rfl (by omega) (by omega), key 5 2 _ rfl (by omega) (by omega), key 5 3 _ rfl (by omega) (by omega), key 5 4 _ rfl (by omega) (by omega)⟩
  | 6, _ => exact ⟨key 6 0 _ rfl (by omega) (by omega), key 6 1 _ rfl (by omega) (by omega), key 6 2 _ rfl (by omega) (by omega), key 6 3 _ rfl (by omega) (by omega), key 6 4 _ rfl (by omega) (by omega)⟩
  | 7, _ => exact ⟨key 7 0 _ rfl (by omega) (by omega), key 7 1 _ rfl (by omega) (by omega), key 7 2 _ rfl (by omega) (by omega), key 7 3 _ rfl (by omega) (by omega), key 7 4 _ rfl (by omega) (by omega)⟩
  | 8, _ => exact ⟨key 8 0 _ rfl (by omega) (by omega), key 8 1 _ rfl (by omega) (by omega), key 8 2 _ rfl (by omega) (by omega), key 8 3 _ rfl (by omega) (by omega), key 8 4 _ rfl (by omega) (by omega)⟩
end Go.Proofs.YthdcdffdpdoeoaaGreatDoor
