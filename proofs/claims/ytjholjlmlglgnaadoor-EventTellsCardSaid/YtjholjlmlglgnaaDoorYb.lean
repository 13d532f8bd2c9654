/-
  FOR EventTells, EventTexts: what the rows lay of the document's own table; EventTells' region 7. Conditions: as they stand.
-/
import Derived.Test.YtjholjlmlglgnaaDoorYa
namespace Go.Proofs.YtjholjlmlglgnaaDoor
set_option maxRecDepth 100000
open Go.ChangeShapes Go.WideShapes Go.ChangeAt Go.RowKit Go.WideElems Go.WideMaps
set_option linter.unusedVariables false
theorem gRefN : Tryd.prog.globalNamed "seesaw/seesawref12.names" = some 1 := by kernel_rfl
theorem tRefN : (Tryd.prog.globals[1]?).map (·.type) = some 45 := by kernel_rfl
theorem er_of_laidF {W : World} (h : laidMetH Tryd.prog [("math/bits.deBruijn32tab", Rows.laid_math_bits_deBruijn32tab), ("math/bits.deBruijn64tab", Rows.laid_math_bits_deBruijn64tab), ("internal/strconv.uint64pow10", Rows.laid_internal_strconv_uint64pow10), ("strconv.ErrRange", Rows.laid_strconv_ErrRange), ("strconv.ErrSyntax", Rows.laid_strconv_ErrSyntax), ("seesaw/seesawref12.names", Rows.laid_seesaw_seesawref12_names), ("seesaw/event.names", Rows.laid_seesaw_event_names)] W) : Er W := by
  rw [MakeChecks.laidMetH_plain _ _ _ (by kernel_rfl)] at h
  obtain ⟨ps, ⟨_, _, _, _, _, _, _, _, _, _, ⟨_, _, _, _, _, _, _, _, _, _, ⟨_, _, _, _, _, _, _, _, _, _, ⟨_, _, _, _, _, _, _, _, _, _, ⟨_, _, _, _, _, _, _, _, _, _, ⟨g4, t4, cs4, f4, p4, q4, hg4, ht4, hv4, hd4, _, _⟩, _⟩, _⟩, _⟩, _⟩, _⟩, _⟩ := h
  obtain rfl := Option.some.inj (gRefN.symm.trans hg4)
  obtain rfl := Option.some.inj (tRefN.symm.trans ht4)
  exact ⟨nm_of gRefN hv4 hd4⟩
noncomputable def regT7_ops : Array Oper := opsW Tryd.f3 7
def regT7_ds : List Nat := [47, 48, 49, 50, 51, 52, 53, 54, 55, 56, 57, 58, 59, 60, 61, 62, 63, 64, 65, 66, 67, 68, 69, 70, 71, 72, 73, 74, 75, 76, 77, 78, 79, 80, 81, 82, 83, 84, 85, 86, 87, 12]
set_option maxRecDepth 100000 in
set_option maxHeartbeats 4000000 in
theorem regT7 {id : Nat} {ops : Array Oper} (hops : ops = regT7_ops) (T0 : Array Value) (hsz : 88 ≤ T0.size) (W : World) (g : Nat) (kd th tx pl v x why T V S p kc : Int) (K : Nat) (m b1 b2 : Bool) (nm : ByteArray) (hg : ∀ wx, Below W.heap.size W wx → wx.heap[g]? = some (.cells #[.int .u8 kd, .int .i64 th, .int .i64 tx, .int .i64 pl, .int .i64 v, .int .i64 x, .int .u8 why] 23 (0, 0))) (H1 : ∀ wx, Below W.heap.size W wx → Calls Tryd.prog 14 #[.agg #[.int .u8 kd, .int .i64 th, .int .i64 tx, .int .i64 pl, .int .i64 v, .int .i64 x, .int .u8 why], .int .i64 T, .int .i64 V, .int .i64 S] wx fun r w' => r = .returned (.bool m) ∧ Below wx.heap.size wx w') (H2 : ∀ wx, Below W.heap.size W wx → Calls Tryd.prog 15 #[.agg #[.int .u8 kd, .int .i64 th, .int .i64 tx, .int .i64 pl, .int .i64 v, .int .i64 x, .int .u8 why], .int .i64 T, .int .i64 V, .int .i64 S] wx fun r w' => r = .returned (.bool m) ∧ Below wx.heap.size wx w') (H3 : ∀ wx, Below W.heap.size W wx → Calls Tryd.prog 16 #[.int .u8 kc] wx fun r w' => r = .returned (.string nm) ∧ Below wx.heap.size wx w') (H4 : ∀ wx, Below W.heap.size W wx → Calls Tryd.prog 17 #[.int .u8 kc] wx fun r w' => r = .returned (.string nm) ∧ Below wx.heap.size wx w') (H5 : ∀ wx, Below W.heap.size W wx → Calls Tryd.prog 9 #[] wx fun r w' => r = .returned (.bool true) ∧ Below wx.heap.size wx w') (h1 : T0[1]? = some (.int .i64 T)) (h2 : T0[2]? = some (.int .i64 V)) (h3 : T0[3]? = some (.int .i64 S)) (h4 : T0[4]? = some (.int .u8 kc)) (h6 : T0[6]? = some (.pointer (some ⟨g, 0, none⟩))) (h13 : T0[13]? = some (.int .i64 p)) (h14 : T0[14]? = some (.bool b1)) (h15 : T0[15]? = some (.int .i64 p)) (h16 : T0[16]? = some (.bool b1)) (h17 : T0[17]? = some (.int .u8 K)) (h18 : T0[18]? = some (.bool b2)) (h19 : T0[19]? = some (.int .u8 K)) (h20 : T0[20]? = some (.bool b2)) {Q : Exit → Act → World → Prop}
    (hend : ∀ (us : List Value) (w : World), us.length = 42 → Below W.heap.size W w → us.getD 41 undef = .bool true → Q .normal ⟨putAll T0 regT7_ds us, []⟩ w) : (Code.region id ops true).wp Tryd.prog Q ⟨T0, []⟩ W := by
  subst hops
  have hos : regT7_ops.size = 42 := by kernel_rfl
  have hga : (List.range 42).all (fun i => match regT7_ops[i]? with | some o => o.guard == ([none, none, none, none, none, none, none, none, none, none, none, none, some (11, true), some (11, true), some (11, true), none, none, some (16, true), some (16, true), some (16, true), none, none, some (21, true), some (21, true), some (21, true), none, none, some (26, true), some (26, true), some (26, true), none, none, some (31, true), some (31, true), some (31, true), some (31, true), some (31, true), none, none, some (38, true), none, none] : List (Option (Nat × Bool))).getD i none | none => false) = true := by kernel_rfl
  refine wp_region_vals3 ([.agg #[.int .u8 kd, .int .i64 th, .int .i64 tx, .int .i64 pl, .int .i64 v, .int .i64 x, .int .u8 why], .int .i64 T, .int .i64 V, .int .i64 S, .bool m, .agg #[.int .u8 kd, .int .i64 th, .int .i64 tx, .int .i64 pl, .int .i64 v, .int .i64 x, .int .u8 why], .int .i64 T, .int .i64 V, .int .i64 S, .bool m, .bool true, .bool true, .int .i64 p, .int .i64 p, .bool true, .bool true, .bool true, .bool b1, .bool b1, .bool true, .bool true, .bool true, .int .u8 K, .int .u8 K, .bool true, .bool true, .bool true, .bool b2, .bool b2, .bool true, .bool true, .bool true, .int .u8 kc, .string nm, .int .u8 kc, .string nm, .bool true, .bool true, .bool true, .bool true, .bool true, .bool true] : List Value) [true, true, true, true, true, true, true, true, true, true, true, true, true, true, true, true, true, true, true, true, true, true, true, true, true, true, true, true, true, true, true, true, true, true, true, true, true, true, true, true, true, true] regT7_ds W T0 (by decide) (fun x hx => ?_) (by kernel_rfl) (by kernel_rfl) (fun i o j want ho hg => ?_) ?_ ?_
  · have hall : (regT7_ds.all fun d => decide (d < 88)) = true := by decide
    have := List.all_eq_true.1 hall x hx
    simp only [decide_eq_true_eq] at this
    omega
  · have hi : i < 42 := by rw [← hos]; exact (Array.getElem?_eq_some_iff.1 ho).1
    have h1 := List.all_eq_true.1 hga i (by simpa using hi)
    rw [ho] at h1
    simp only [hg, beq_iff_eq] at h1
    match i, hi with
    | 0, _ => cases h1
    | 1, _ => cases h1
    | 2, _ => cases h1
    | 3, _ => cases h1
    | 4, _ => cases h1
    | 5, _ => cases h1
    | 6, _ => cases h1
    | 7, _ => cases h1
    | 8, _ => cases h1
    | 9, _ => cases h1
    | 10, _ => cases h1
    | 11, _ => cases h1
    | 12, _ => obtain ⟨rfl, rfl⟩ := Prod.mk.inj (Option.some.inj h1); rfl
    | 13, _ => obtain ⟨rfl, rfl⟩ := Prod.mk.inj (Option.some.inj h1); rfl
    | 14, _ => obtain ⟨rfl, rfl⟩ := Prod.mk.inj (Option.some.inj h1); rfl
    | 15, _ => cases h1
    | 16, _ => cases h1
    | 17, _ => obtain ⟨rfl, rfl⟩ := Prod.mk.inj (Option.some.inj h1); rfl
    | 18, _ => obtain ⟨rfl, rfl⟩ := Prod.mk.inj (Option.some.inj h1); rfl
    | 19, _ => obtain ⟨rfl, rfl⟩ := Prod.mk.inj (Option.some.inj h1); rfl
    | 20, _ => cases h1
    | 21, _ => cases h1
    | 22, _ => obtain ⟨rfl, rfl⟩ := Prod.mk.inj (Option.some.inj h1); rfl
    | 23, _ => obtain ⟨rfl, rfl⟩ := Prod.mk.inj (Option.some.inj h1); rfl
    | 24, _ => obtain ⟨rfl, rfl⟩ := Prod.mk.inj (Option.some.inj h1); rfl
    | 25, _ => cases h1
    | 26, _ => cases h1
    | 27, _ => obtain ⟨rfl, rfl⟩ := Prod.mk.inj (Option.some.inj h1); rfl
    | 28, _ => obtain ⟨rfl, rfl⟩ := Prod.mk.inj (Option.some.inj h1); rfl
    | 29, _ => obtain ⟨rfl, rfl⟩ := Prod.mk.inj (Option.some.inj h1); rfl
    | 30, _ => cases h1
    | 31, _ => cases h1
    | 32, _ => obtain ⟨rfl, rfl⟩ := Prod.mk.inj (Option.some.inj h1); rfl
    | 33, _ => obtain ⟨rfl, rfl⟩ := Prod.mk.inj (Option.some.inj h1); rfl
    | 34, _ => obtain ⟨rfl, rfl⟩ := Prod.mk.inj (Option.some.inj h1); rfl
    | 35, _ => obtain ⟨rfl, rfl⟩ := Prod.mk.inj (Option.some.inj h1); rfl
    | 36, _ => obtain ⟨rfl, rfl⟩ := Prod.mk.inj (Option.some.inj h1); rfl
    | 37, _ => cases h1
    | 38, _ => cases h1
    | 39, _ => obtain ⟨rfl, rfl⟩ := Prod.mk.inj (Option.some.inj h1); rfl
    | 40, _ => cases h1
    | 41, _ => cases h1
    | i + 42, h => exact absurd (show i + 42 < 42 from h) (by omega)
  · intro i o ho hi hon a w hT hU hb K hK
    have hT0 : ∀ t v, t ∉ regT7_ds → T0[t]? = some v → a.tmps[t]?.getD undef = v := fun t v ht hv => by rw [hT t ht, hv]; rfl
    match i, hi with
    | 0, _ => exact v_loadE 6 (opAtW ho (by kernel_rfl)) (hT0 6 _ (by decide) h6) (hg w hb) rfl (hK _ (Below.refl _ _))
    | 1, _ => exact v_move 1 (opAtW ho (by kernel_rfl)) (hT0 1 _ (by decide) h1) (hK _ (Below.refl _ _))
    | 2, _ => exact v_move 2 (opAtW ho (by kernel_rfl)) (hT0 2 _ (by decide) h2) (hK _ (Below.refl _ _))
    | 3, _ => exact v_move 3 (opAtW ho (by kernel_rfl)) (hT0 3 _ (by decide) h3) (hK _ (Below.refl _ _))
    | 4, _ => exact v_may 47 48 49 50 (opAtW ho (by kernel_rfl)) (hU 0 (by kernel_rfl) rfl) (hU 1 (by kernel_rfl) rfl) (hU 2 (by kernel_rfl) rfl) (hU 3 (by kernel_rfl) rfl) (H1 w hb) (fun w' hb' => hK w' hb')
    | 5, _ => exact v_loadE 6 (opAtW ho (by kernel_rfl)) (hT0 6 _ (by decide) h6) (hg w hb) rfl (hK _ (Below.refl _ _))
    | 6, _ => exact v_move 1 (opAtW ho (by kernel_rfl)) (hT0 1 _ (by decide) h1) (hK _ (Below.refl _ _))
    | 7, _ => exact v_move 2 (opAtW ho (by kernel_rfl)) (hT0 2 _ (by decide) h2) (hK _ (Below.refl _ _))
    | 8, _ => exact v_move 3 (opAtW ho (by kernel_rfl)) (hT0 3 _ (by decide) h3) (hK _ (Below.refl _ _))
    | 9, _ => exact v_mayR 52 53 54 55 (opAtW ho (by kernel_rfl)) (hU 5 (by kernel_rfl) rfl) (hU 6 (by kernel_rfl) rfl) (hU 7 (by kernel_rfl) rfl) (hU 8 (by kernel_rfl) rfl) (H2 w hb) (fun w' hb' => hK w' hb')
    | 10, _ => exact v_eqlb 51 56 (opAtW ho (by kernel_rfl)) (hU 4 (by kernel_rfl) rfl) (hU 9 (by kernel_rfl) rfl) (by simp) (hK _ (Below.refl _ _))
    | 11, _ => exact v_move 57 (opAtW ho (by kernel_rfl)) (hU 10 (by kernel_rfl) rfl) (hK _ (Below.refl _ _))
    | 12, _ => exact v_move 13 (opAtW ho (by kernel_rfl)) (hT0 13 _ (by decide) h13) (hK _ (Below.refl _ _))
    | 13, _ => exact v_move 15 (opAtW ho (by kernel_rfl)) (hT0 15 _ (by decide) h15) (hK _ (Below.refl _ _))
    | 14, _ => exact v_eqli 59 60 (opAtW ho (by kernel_rfl)) (hU 12 (by kernel_rfl) rfl) (hU 13 (by kernel_rfl) rfl) (by simp) (hK _ (Below.refl _ _))
    | 15, _ => exact v_andT 58 61 (opAtW ho (by kernel_rfl)) (hU 11 (by kernel_rfl) rfl) (hU 14 (by kernel_rfl) rfl) (hK _ (Below.refl _ _))
    | 16, _ => exact v_move 62 (opAtW ho (by kernel_rfl)) (hU 15 (by kernel_rfl) rfl) (hK _ (Below.refl _ _))
    | 17, _ => exact v_move 14 (opAtW ho (by kernel_rfl)) (hT0 14 _ (by decide) h14) (hK _ (Below.refl _ _))
    | 18, _ => exact v_move 16 (opAtW ho (by kernel_rfl)) (hT0 16 _ (by decide) h16) (hK _ (Below.refl _ _))
    | 19, _ => exact v_eqlb 64 65 (opAtW ho (by kernel_rfl)) (hU 17 (by kernel_rfl) rfl) (hU 18 (by kernel_rfl) rfl) (by simp) (hK _ (Below.refl _ _))
    | 20, _ => exact v_andT 63 66 (opAtW ho (by kernel_rfl)) (hU 16 (by kernel_rfl) rfl) (hU 19 (by kernel_rfl) rfl) (hK _ (Below.refl _ _))
    | 21, _ => exact v_move 67 (opAtW ho (by kernel_rfl)) (hU 20 (by kernel_rfl) rfl) (hK _ (Below.refl _ _))
    | 22, _ => exact v_move 17 (opAtW ho (by kernel_rfl)) (hT0 17 _ (by decide) h17) (hK _ (Below.refl _ _))
    | 23, _ => exact v_move 19 (opAtW ho (by kernel_rfl)) (hT0 19 _ (by decide) h19) (hK _ (Below.refl _ _))
    | 24, _ => exact v_eqlu 69 70 (opAtW ho (by kernel_rfl)) (hU 22 (by kernel_rfl) rfl) (hU 23 (by kernel_rfl) rfl) (by simp) (hK _ (Below.refl _ _))
    | 25, _ => exact v_andT 68 71 (opAtW ho (by kernel_rfl)) (hU 21 (by kernel_rfl) rfl) (hU 24 (by kernel_rfl) rfl) (hK _ (Below.refl _ _))
    | 26, _ => exact v_move 72 (opAtW ho (by kernel_rfl)) (hU 25 (by kernel_rfl) rfl) (hK _ (Below.refl _ _))
    | 27, _ => exact v_move 18 (opAtW ho (by kernel_rfl)) (hT0 18 _ (by decide) h18) (hK _ (Below.refl _ _))
    | 28, _ => exact v_move 20 (opAtW ho (by kernel_rfl)) (hT0 20 _ (by decide) h20) (hK _ (Below.refl _ _))
    | 29, _ => exact v_eqlb 74 75 (opAtW ho (by kernel_rfl)) (hU 27 (by kernel_rfl) rfl) (hU 28 (by kernel_rfl) rfl) (by simp) (hK _ (Below.refl _ _))
    | 30, _ => exact v_andT 73 76 (opAtW ho (by kernel_rfl)) (hU 26 (by kernel_rfl) rfl) (hU 29 (by kernel_rfl) rfl) (hK _ (Below.refl _ _))
    | 31, _ => exact v_move 77 (opAtW ho (by kernel_rfl)) (hU 30 (by kernel_rfl) rfl) (hK _ (Below.refl _ _))
    | 32, _ => exact v_move 4 (opAtW ho (by kernel_rfl)) (hT0 4 _ (by decide) h4) (hK _ (Below.refl _ _))
    | 33, _ => exact v_name 79 (opAtW ho (by kernel_rfl)) (hU 32 (by kernel_rfl) rfl) (H3 w hb) (fun w' hb' => hK w' hb')
    | 34, _ => exact v_move 4 (opAtW ho (by kernel_rfl)) (hT0 4 _ (by decide) h4) (hK _ (Below.refl _ _))
    | 35, _ => exact v_nameR 81 (opAtW ho (by kernel_rfl)) (hU 34 (by kernel_rfl) rfl) (H4 w hb) (fun w' hb' => hK w' hb')
    | 36, _ => exact v_eqls 80 82 (opAtW ho (by kernel_rfl)) (hU 33 (by kernel_rfl) rfl) (hU 35 (by kernel_rfl) rfl) (by simp) (hK _ (Below.refl _ _))
    | 37, _ => exact v_andT 78 83 (opAtW ho (by kernel_rfl)) (hU 31 (by kernel_rfl) rfl) (hU 36 (by kernel_rfl) rfl) (hK _ (Below.refl _ _))
    | 38, _ => exact v_move 84 (opAtW ho (by kernel_rfl)) (hU 37 (by kernel_rfl) rfl) (hK _ (Below.refl _ _))
    | 39, _ => exact v_awake  (opAtW ho (by kernel_rfl))  (H5 w hb) (fun w' hb' => hK w' hb')
    | 40, _ => exact v_andT 85 86 (opAtW ho (by kernel_rfl)) (hU 38 (by kernel_rfl) rfl) (hU 39 (by kernel_rfl) rfl) (hK _ (Below.refl _ _))
    | 41, _ => exact v_assign 87 (opAtW ho (by kernel_rfl)) (hU 40 (by kernel_rfl) rfl) (hK _ (Below.refl _ _))
    | i + 42, h => exact absurd (show i + 42 < 42 from h) (by omega)
  · intro us w hu hb hv
    exact hend us w hu hb (hv 41 (by decide) rfl)
end Go.Proofs.YtjholjlmlglgnaaDoor
