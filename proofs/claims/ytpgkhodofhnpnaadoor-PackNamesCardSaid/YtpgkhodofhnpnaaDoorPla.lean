/-
  FOR THE CARDS OF LAYER 7: what the rows lay of code's table and of pack's, cell by cell; the door's own heap meets it. No condition.
-/
import Derived.Test.YtpgkhodofhnpnaaDoorZc
import Derived.Test.YtpgkhodofhnpnaaDoorPf
import Derived.Test.YtpgkhodofhnpnaaDoorLift
import Derived.Test.YtpgkhodofhnpnaaDoorCards
import Derived.Test.YtpgkhodofhnpnaaDoorTie
import Derived.LaidMore
import Derived.Stop.Joined
import Derived.SevenTiedAt
namespace Go.Proofs.YtpgkhodofhnpnaaDoor
set_option maxRecDepth 100000
open Go.ChangeShapes Go.WideShapes Go.ChangeAt Go.RowKit Go.WideElems Go.WideMaps
set_option linter.unusedVariables false
/-- What each Kind asks, row by row. -/
def kindTab : List (List Bool) := [[false, false, false, false, false], [true, true, false, false, false], [true, true, false, false, false], [false, true, true, false, false], [false, true, false, true, true], [false, true, false, true, false], [false, false, false, false, false], [false, false, false, true, true], [false, true, false, false, false]]
theorem gKinds : Tryd.prog.globalNamed "seesaw/code.kinds" = some 1 := by kernel_rfl
theorem tKinds : (Tryd.prog.globals[1]?).map (·.type) = some 131 := by kernel_rfl
theorem kd_of_laid2 {W : World} (h : laidMetH Tryd.prog [("seesaw/code.kinds", Rows.laid_seesaw_code_kinds), ("seesaw/pack.parts", Rows.laid_seesaw_pack_parts)] W) : Kd W := by
  rw [MakeChecks.laidMetH_plain _ _ _ (by kernel_rfl)] at h
  obtain ⟨ps, ⟨g0, t0, cs0, f0, p0, q0, hg0, ht0, hv0, hd0, _, _⟩, _⟩ := h
  obtain rfl := Option.some.inj (gKinds.symm.trans hg0)
  obtain rfl := Option.some.inj (tKinds.symm.trans ht0)
  obtain ⟨xs, m1, rfl, hx1, hlen, hn, hel⟩ := DataW.trod_array Tryd.underlying131 hd0
  have c5 : Tryd.prog.cellsOf 130 = 5 := by kernel_rfl
  have c1 : Tryd.prog.cellsOf 4 = 1 := by kernel_rfl
  have hcell := World.var?_cell hg0 hv0
  have hx2 := congrArg Prod.fst hx1
  have hx3 : kindTab.map (fun r => DataW.agg (r.map fun b => DataW.lit (.bool b))) = xs.map (·.1) := DataW.agg.inj hx2
  have key : ∀ (k i : Nat) (b : Bool), (kindTab[k]?.bind (·[i]?)) = some b → k < 9 → i < 5 → W.cell? ⟨1, k * 5 + i, none⟩ = some (.bool b) := by
    intro k i b hb hk hi
    obtain ⟨r, hr, hri⟩ := Option.bind_eq_some_iff.1 hb
    have h1 := hel k hk
    have hxk : xs[k]? = some xs[k] := List.getElem?_eq_getElem (by omega)
    rw [hxk, c5] at h1
    obtain ⟨ys, m2, rfl, hy1, hyl, hyn, hyel⟩ := DataW.trod_struct Tryd.underlying130 h1
    have e1 : (xs.map (·.1))[k]? = some (DataW.agg (r.map fun b => DataW.lit (.bool b))) := by rw [← hx3, List.getElem?_map, hr]; rfl
    rw [List.getElem?_map, hxk, hy1] at e1
    have e2 : ys.map (·.1) = r.map fun b => DataW.lit (.bool b) := DataW.agg.inj (Option.some.inj e1)
    have hy5 : ys.length = 5 := hyn
    have e3 : (ys.map (·.1))[i]? = some (DataW.lit (.bool b)) := by rw [e2, List.getElem?_map, hri]; rfl
    rw [List.getElem?_map] at e3
    obtain ⟨y, hyi, hy⟩ := Option.map_eq_some_iff.1 e3
    obtain ⟨f, hf, ft, fo⟩ : ∃ f, (#[(⟨"to", 4, 0, false, "", "seesaw/code", 0⟩ : Field), ⟨"a", 4, 1, false, "", "seesaw/code", 1⟩, ⟨"b", 4, 2, false, "", "seesaw/code", 2⟩, ⟨"body", 4, 3, false, "", "seesaw/code", 3⟩, ⟨"orElse", 4, 4, false, "", "seesaw/code", 4⟩])[i]? = some f ∧ f.type = 4 ∧ f.offset = i := by
      match i, hi with
      | 0, _ => exact ⟨_, rfl, rfl, rfl⟩
      | 1, _ => exact ⟨_, rfl, rfl, rfl⟩
      | 2, _ => exact ⟨_, rfl, rfl, rfl⟩
      | 3, _ => exact ⟨_, rfl, rfl, rfl⟩
      | 4, _ => exact ⟨_, rfl, rfl, rfl⟩
    have h2 := hyel i f hf
    rw [ft, fo, c1, hyi] at h2
    obtain ⟨b', hc, hy'⟩ := DataW.trod_bool Tryd.underlying4 h2
    rw [hy'] at hy
    have hbb : b' = b := by simpa using hy
    subst hbb
    have hat : ((List.drop i (List.take 5 (List.drop (k * 5) cs0.toList))).take 1)[0]? = some (.bool b') := by rw [hc]; rfl
    rw [List.getElem?_take_of_lt (by omega), List.getElem?_drop, List.getElem?_take_of_lt (by omega), List.getElem?_drop] at hat
    rw [hcell, ← Array.getElem?_toList]
    exact hat
  intro k hk
  match k, hk with
  | 0, _ => exact ⟨key 0 0 _ rfl (by omega) (by omega), key 0 1 _ rfl (by omega) (by omega), key 0 2 _ rfl (by omega) (by omega), key 0 3 _ rfl (by omega) (by omega), key 0 4 _ rfl (by omega) (by omega)⟩
  | 1, _ => exact ⟨key 1 0 _ rfl (by omega) (by omega), key 1 1 _ rfl (by omega) (by omega), key 1 2 _ rfl (by omega) (by omega), key 1 3 _ rfl (by omega) (by omega), key 1 4 _ rfl (by omega) (by omega)⟩
  | 2, _ => exact ⟨key 2 0 _ rfl (by omega) (by omega), key 2 1 _ rfl (by omega) (by omega), key 2 2 _ rfl (by omega) (by omega), key 2 3 _ rfl (by omega) (by omega), key 2 4 _ rfl (by omega) (by omega)⟩
  | 3, _ => exact ⟨key 3 0 _ rfl (by omega) (by omega), key 3 1 _ rfl (by omega) (by omega), key 3 2 _ rfl (by omega) (by omega), key 3 3 _ rfl (by omega) (by omega), key 3 4 _ rfl (by omega) (by omega)⟩
  | 4, _ => exact ⟨key 4 0 _ rfl (by omega) (by omega), key 4 1 _ rfl (by omega) (by omega), key 4 2 _ rfl (by omega) (by omega), key 4 3 _ rfl (by omega) (by omega), key 4 4 _ rfl (by omega) (by omega)⟩
  | 5, _ => exact ⟨key 5 0 _ rfl (by omega) (by omega), key 5 1 _ rfl (by omega) (by omega), key 5 2 _ rfl (by omega) (by omega), key 5 3 _ rfl (by omega) (by omega), key 5 4 _ rfl (by omega) (by omega)⟩
  | 6, _ => exact ⟨key 6 0 _ rfl (by omega) (by omega), key 6 1 _ rfl (by omega) (by omega), key 6 2 _ rfl (by omega) (by omega), key 6 3 _ rfl (by omega) (by omega), key 6 4 _ rfl (by omega) (by omega)⟩
  | 7, _ => exact ⟨key 7 0 _ rfl (by omega) (by omega), key 7 1 _ rfl (by omega) (by omega), key 7 2 _ rfl (by omega) (by omega), key 7 3 _ rfl (by omega) (by omega), key 7 4 _ rfl (by omega) (by omega)⟩
  | 8, _ => exact ⟨key 8 0 _ rfl (by omega) (by omega), key 8 1 _ rfl (by omega) (by omega), key 8 2 _ rfl (by omega) (by omega), key 8 3 _ rfl (by omega) (by omega), key 8 4 _ rfl (by omega) (by omega)⟩
def partTab : List (List UInt8) := [[], [84, 65], [84, 65], [65, 66], [65, 98, 101], [65, 98], [], [98, 101], [65]]
theorem gParts : Tryd.prog.globalNamed "seesaw/pack.parts" = some 0 := by kernel_rfl
theorem tParts : (Tryd.prog.globals[0]?).map (·.type) = some 112 := by kernel_rfl
theorem pt_of_laid2 {W : World} (h : laidMetH Tryd.prog [("seesaw/code.kinds", Rows.laid_seesaw_code_kinds), ("seesaw/pack.parts", Rows.laid_seesaw_pack_parts)] W) : Pt W := by
  rw [MakeChecks.laidMetH_plain _ _ _ (by kernel_rfl)] at h
  obtain ⟨ps, ⟨_, _, _, _, _, q1, _, _, _, _, h3, h4⟩, _⟩ := h
  obtain ⟨g0, t0, cs0, f0, p0, q0, hg0, ht0, hv0, hd0, _, _⟩ := h3
  obtain rfl := Option.some.inj (gParts.symm.trans hg0)
  obtain rfl := Option.some.inj (tParts.symm.trans ht0)
  obtain ⟨xs, m1, rfl, hx1, hlen, hn, hel⟩ := DataW.trod_array Tryd.underlying112 hd0
  have c1 : Tryd.prog.cellsOf 9 = 1 := by kernel_rfl
  have hcell := World.var?_cell hg0 hv0
  have hx2 := congrArg Prod.fst hx1
  have hx3 : partTab.map (fun r => DataW.lit (.string r)) = xs.map (·.1) := DataW.agg.inj hx2
  have hx9 : xs.length = 9 := hn
  intro k hk
  have h1 := hel k hk
  have hxk : xs[k]? = some xs[k] := List.getElem?_eq_getElem (by omega)
  rw [hxk, c1] at h1
  obtain ⟨t, hc, hy, _⟩ := DataW.trod_string Tryd.underlying9 h1
  have hl : partTab[k]? = some (letters k) := by
    have : k = 0 ∨ k = 1 ∨ k = 2 ∨ k = 3 ∨ k = 4 ∨ k = 5 ∨ k = 6 ∨ k = 7 ∨ k = 8 := by omega
    rcases this with rfl | rfl | rfl | rfl | rfl | rfl | rfl | rfl | rfl <;> rfl
  have e1 : (xs.map (·.1))[k]? = some (DataW.lit (.string (letters k))) := by rw [← hx3, List.getElem?_map, hl]; rfl
  rw [List.getElem?_map, hxk, hy] at e1
  have e2 : t.data.toList = letters k := by
    have h5 := Option.some.inj e1
    have h6 : DataW.lit (Lit.string t.data.toList) = DataW.lit (Lit.string (letters k)) := h5
    injection h6 with h7
    injection h7
  have e3 : t = bs (letters k) := by rw [← e2, bs_of]
  have hat : ((List.drop (k * 1) cs0.toList).take 1)[0]? = some (.string t) := by rw [hc]; rfl
  rw [List.getElem?_take_of_lt (by omega), List.getElem?_drop, Nat.mul_one, Nat.add_zero] at hat
  rw [hcell, ← Array.getElem?_toList, hat, e3]
theorem door_met2 (os : Os) (args : Array Value) : laidMetH Tryd.prog [("seesaw/code.kinds", Rows.laid_seesaw_code_kinds), ("seesaw/pack.parts", Rows.laid_seesaw_pack_parts)] ((World.doorLaid Tryd.prog 400 os).forCall (fun _ _ => 0) ⟨#[], args, []⟩).memory :=
  laidMetH_of_parts3 (fuel := 8) (laidMet_of_run' 8 (by kernel_rfl) (by kernel_rfl)) (by kernel_rfl) (by kernel_rfl)
theorem lit_range2 {n : Int} (h : (Lit.int .i64 n).wf = true) : -9223372036854775808 ≤ n ∧ n < 9223372036854775808 := by
  have : -9223372036854775808 ≤ n ∧ n ≤ 9223372036854775807 := by simpa [Lit.wf, IntKind.min, IntKind.max, IntKind.signed, IntKind.bits] using h
  omega
end Go.Proofs.YtpgkhodofhnpnaaDoor
