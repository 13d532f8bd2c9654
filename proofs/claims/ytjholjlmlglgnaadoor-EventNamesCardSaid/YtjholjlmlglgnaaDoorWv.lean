/-
  FOR EventNames: the texts that are refused, and the least number; region 13. Conditions: as they stand.
-/
import Derived.Test.YtjholjlmlglgnaaDoorRw
import Derived.Test.YtjholjlmlglgnaaDoorWg
namespace Go.Proofs.YtjholjlmlglgnaaDoor
set_option maxRecDepth 100000
open Go.RowKit
set_option linter.unusedVariables false
theorem dig_step {u : Nat} (h : ¬ u < 10) : Lib.decDigits u = Lib.decDigits (u / 10) ++ [UInt8.ofNat (48 + u % 10)] := by rw [Lib.decDigits, dif_neg h]
theorem dig_max : Lib.decDigits 9223372036854775807 = [57, 50, 50, 51, 51, 55, 50, 48, 51, 54, 56, 53, 52, 55, 55, 53, 56, 48, 55] := by
  rw [dig_step (u := 9223372036854775807) (by decide), show 9223372036854775807 / 10 = 922337203685477580 from rfl]
  rw [dig_step (u := 922337203685477580) (by decide), show 922337203685477580 / 10 = 92233720368547758 from rfl]
  rw [dig_step (u := 92233720368547758) (by decide), show 92233720368547758 / 10 = 9223372036854775 from rfl]
  rw [dig_step (u := 9223372036854775) (by decide), show 9223372036854775 / 10 = 922337203685477 from rfl]
  rw [dig_step (u := 922337203685477) (by decide), show 922337203685477 / 10 = 92233720368547 from rfl]
  rw [dig_step (u := 92233720368547) (by decide), show 92233720368547 / 10 = 9223372036854 from rfl]
  rw [dig_step (u := 9223372036854) (by decide), show 9223372036854 / 10 = 922337203685 from rfl]
  rw [dig_step (u := 922337203685) (by decide), show 922337203685 / 10 = 92233720368 from rfl]
  rw [dig_step (u := 92233720368) (by decide), show 92233720368 / 10 = 9223372036 from rfl]
  rw [dig_step (u := 9223372036) (by decide), show 9223372036 / 10 = 922337203 from rfl]
  rw [dig_step (u := 922337203) (by decide), show 922337203 / 10 = 92233720 from rfl]
  rw [dig_step (u := 92233720) (by decide), show 92233720 / 10 = 9223372 from rfl]
  rw [dig_step (u := 9223372) (by decide), show 9223372 / 10 = 922337 from rfl]
  rw [dig_step (u := 922337) (by decide), show 922337 / 10 = 92233 from rfl]
  rw [dig_step (u := 92233) (by decide), show 92233 / 10 = 9223 from rfl]
  rw [dig_step (u := 9223) (by decide), show 9223 / 10 = 922 from rfl]
  rw [dig_step (u := 922) (by decide), show 922 / 10 = 92 from rfl]
  rw [dig_step (u := 92) (by decide), show 92 / 10 = 9 from rfl]
  rw [dig1 (i := 9) (by decide)]
  all_goals rfl
theorem dig_min : Lib.decDigits 9223372036854775808 = [57, 50, 50, 51, 51, 55, 50, 48, 51, 54, 56, 53, 52, 55, 55, 53, 56, 48, 56] := by
  rw [dig_step (u := 9223372036854775808) (by decide), show 9223372036854775808 / 10 = 922337203685477580 from rfl]
  rw [dig_step (u := 922337203685477580) (by decide), show 922337203685477580 / 10 = 92233720368547758 from rfl]
  rw [dig_step (u := 92233720368547758) (by decide), show 92233720368547758 / 10 = 9223372036854775 from rfl]
  rw [dig_step (u := 9223372036854775) (by decide), show 9223372036854775 / 10 = 922337203685477 from rfl]
  rw [dig_step (u := 922337203685477) (by decide), show 922337203685477 / 10 = 92233720368547 from rfl]
  rw [dig_step (u := 92233720368547) (by decide), show 92233720368547 / 10 = 9223372036854 from rfl]
  rw [dig_step (u := 9223372036854) (by decide), show 9223372036854 / 10 = 922337203685 from rfl]
  rw [dig_step (u := 922337203685) (by decide), show 922337203685 / 10 = 92233720368 from rfl]
  rw [dig_step (u := 92233720368) (by decide), show 92233720368 / 10 = 9223372036 from rfl]
  rw [dig_step (u := 9223372036) (by decide), show 9223372036 / 10 = 922337203 from rfl]
  rw [dig_step (u := 922337203) (by decide), show 922337203 / 10 = 92233720 from rfl]
  rw [dig_step (u := 92233720) (by decide), show 92233720 / 10 = 9223372 from rfl]
  rw [dig_step (u := 9223372) (by decide), show 9223372 / 10 = 922337 from rfl]
  rw [dig_step (u := 922337) (by decide), show 922337 / 10 = 92233 from rfl]
  rw [dig_step (u := 92233) (by decide), show 92233 / 10 = 9223 from rfl]
  rw [dig_step (u := 9223) (by decide), show 9223 / 10 = 922 from rfl]
  rw [dig_step (u := 922) (by decide), show 922 / 10 = 92 from rfl]
  rw [dig_step (u := 92) (by decide), show 92 / 10 = 9 from rfl]
  rw [dig1 (i := 9) (by decide)]
  all_goals rfl
theorem dig_31 : Lib.decDigits 31 = [51, 49] := by
  rw [dig_step (u := 31) (by decide), show 31 / 10 = 3 from rfl]
  rw [dig1 (i := 3) (by decide)]
  all_goals rfl
theorem itoa_max : Lib.itoa 9223372036854775807 = [57, 50, 50, 51, 51, 55, 50, 48, 51, 54, 56, 53, 52, 55, 55, 53, 56, 48, 55] := by
  unfold Lib.itoa
  rw [if_neg (by decide), show (9223372036854775807 : Int).toNat = 9223372036854775807 from rfl, dig_max]
theorem itoa_min : Lib.itoa (-9223372036854775808) = [45, 57, 50, 50, 51, 51, 55, 50, 48, 51, 54, 56, 53, 52, 55, 55, 53, 56, 48, 56] := by
  unfold Lib.itoa
  rw [if_pos (by decide), show (-9223372036854775808 : Int).natAbs = 9223372036854775808 from rfl, dig_min]
  all_goals rfl
theorem itoa_31 : Lib.itoa 31 = [51, 49] := by
  unfold Lib.itoa
  rw [if_neg (by decide), show (31 : Int).toNat = 31 from rfl, dig_31]
theorem nshow2 : showF ⟨2, 1, 0, 3, 0, 0, 0⟩ = [49, 32, 108, 111, 111, 107, 32, 51, 32, 48] := by
  show Lib.join [Lib.decDigits 1, nmL 2, Lib.itoa ((3 : Nat) : Int), Lib.itoa ((0 : Nat) : Int)] [32] = _
  rw [dig1 (by omega), itoa1 (i := 3) (by omega), itoa1 (i := 0) (by omega)]
  all_goals rfl
theorem nshow3 : showF ⟨2, 1, 0, 3, 7, 0, 0⟩ = [49, 32, 108, 111, 111, 107, 32, 51, 32, 55] := by
  show Lib.join [Lib.decDigits 1, nmL 2, Lib.itoa ((3 : Nat) : Int), Lib.itoa ((7 : Nat) : Int)] [32] = _
  rw [dig1 (by omega), itoa1 (i := 3) (by omega), itoa1 (i := 7) (by omega)]
  all_goals rfl
theorem nshow6 : showF ⟨12, 1, 0, 0, 0, 0, 0⟩ = [49, 32, 119, 97, 105, 116] := by
  show Lib.join [Lib.decDigits 1, nmL 12] [32] = _
  rw [dig1 (by omega)]
  all_goals rfl
theorem nshow11 : showF ⟨3, 1, 0, 1, 0, 9223372036854775807, 0⟩ = [49, 32, 108, 111, 97, 100, 32, 49, 32, 57, 50, 50, 51, 51, 55, 50, 48, 51, 54, 56, 53, 52, 55, 55, 53, 56, 48, 55] := by
  show Lib.join [Lib.decDigits 1, nmL 3, Lib.itoa ((1 : Nat) : Int), Lib.itoa (9223372036854775807)] [32] = _
  rw [dig1 (by omega), itoa1 (i := 1) (by omega), itoa_max]
  all_goals rfl
theorem nshow12 : showF ⟨3, 1, 0, 1, 0, 0, 0⟩ = [49, 32, 108, 111, 97, 100, 32, 49, 32, 48] := by
  show Lib.join [Lib.decDigits 1, nmL 3, Lib.itoa ((1 : Nat) : Int), Lib.itoa ((0 : Nat) : Int)] [32] = _
  rw [dig1 (by omega), itoa1 (i := 1) (by omega), itoa1 (i := 0) (by omega)]
  all_goals rfl
theorem nshow13 : showF ⟨3, 1, 0, 1, 0, 1, 0⟩ = [49, 32, 108, 111, 97, 100, 32, 49, 32, 49] := by
  show Lib.join [Lib.decDigits 1, nmL 3, Lib.itoa ((1 : Nat) : Int), Lib.itoa ((1 : Nat) : Int)] [32] = _
  rw [dig1 (by omega), itoa1 (i := 1) (by omega)]
  all_goals rfl
theorem nshow_least : showF ⟨8, 5, 0, 31, 0, -9223372036854775808, 0⟩ = [53, 32, 115, 116, 111, 114, 101, 32, 51, 49, 32, 45, 57, 50, 50, 51, 51, 55, 50, 48, 51, 54, 56, 53, 52, 55, 55, 53, 56, 48, 56] := by
  show Lib.join [Lib.decDigits 5, nmL 8, Lib.itoa (31), Lib.itoa (-9223372036854775808)] [32] = _
  rw [dig1 (by omega), itoa_31, itoa_min]
  all_goals rfl
theorem nparse0 : parseF [] = (ev0, 4) := parse_bad ⟨0, 0, 0, 0, 0, 0, 0⟩ (by kernel_rfl) (.inl (by kernel_rfl))
theorem nparse1 : parseF [49] = (ev0, 4) := parse_bad ⟨0, 0, 0, 0, 0, 0, 0⟩ (by kernel_rfl) (.inl (by kernel_rfl))
theorem nparse2 : parseF [49, 32, 108, 111, 111, 107, 32, 51] = (ev0, 4) := parse_bad ⟨2, 1, 0, 3, 0, 0, 0⟩ (by kernel_rfl) (.inr (by rw [nshow2]; decide))
theorem nparse3 : parseF [49, 32, 108, 111, 111, 107, 32, 51, 32, 55, 32, 48] = (ev0, 4) := parse_bad ⟨2, 1, 0, 3, 7, 0, 0⟩ (by kernel_rfl) (.inr (by rw [nshow3]; decide))
theorem nparse4 : parseF [55, 32, 119, 97, 105, 116] = (ev0, 4) := parse_bad ⟨12, 7, 0, 0, 0, 0, 0⟩ (by kernel_rfl) (.inl (by kernel_rfl))
theorem nparse5 : parseF [45, 49, 32, 119, 97, 105, 116] = (ev0, 4) := parse_bad ⟨12, -1, 0, 0, 0, 0, 0⟩ (by kernel_rfl) (.inl (by kernel_rfl))
theorem nparse6 : parseF [49, 32, 119, 97, 105, 116, 32] = (ev0, 4) := parse_bad ⟨12, 1, 0, 0, 0, 0, 0⟩ (by kernel_rfl) (.inr (by rw [nshow6]; decide))
theorem nparse7 : parseF [32, 49, 32, 119, 97, 105, 116] = (ev0, 4) := parse_bad ⟨0, 0, 0, 0, 0, 0, 0⟩ (by kernel_rfl) (.inl (by kernel_rfl))
theorem nparse8 : parseF [49, 32, 32, 119, 97, 105, 116] = (ev0, 4) := parse_bad ⟨0, 0, 0, 0, 0, 0, 0⟩ (by kernel_rfl) (.inl (by kernel_rfl))
theorem nparse9 : parseF [49, 32, 110, 111, 110, 101] = (ev0, 4) := parse_bad ⟨0, 0, 0, 0, 0, 0, 0⟩ (by kernel_rfl) (.inl (by kernel_rfl))
theorem nparse10 : parseF [49, 32, 108, 111, 97, 100, 32, 51, 50, 32, 49] = (ev0, 4) := parse_bad ⟨3, 1, 0, 32, 0, 1, 0⟩ (by kernel_rfl) (.inl (by kernel_rfl))
theorem nparse11 : parseF [49, 32, 108, 111, 97, 100, 32, 49, 32, 57, 50, 50, 51, 51, 55, 50, 48, 51, 54, 56, 53, 52, 55, 55, 53, 56, 48, 56] = (ev0, 4) := parse_bad ⟨3, 1, 0, 1, 0, 9223372036854775807, 0⟩ (by kernel_rfl) (.inr (by rw [nshow11]; decide))
theorem nparse12 : parseF [49, 32, 108, 111, 97, 100, 32, 49, 32, 45, 48] = (ev0, 4) := parse_bad ⟨3, 1, 0, 1, 0, 0, 0⟩ (by kernel_rfl) (.inr (by rw [nshow12]; decide))
theorem nparse13 : parseF [49, 32, 108, 111, 97, 100, 32, 49, 32, 43, 49] = (ev0, 4) := parse_bad ⟨3, 1, 0, 1, 0, 1, 0⟩ (by kernel_rfl) (.inr (by rw [nshow13]; decide))
theorem nparse14 : parseF [49, 32, 97, 98, 111, 114, 116, 32, 48, 32, 48] = (ev0, 4) := parse_bad ⟨10, 1, 0, 0, 0, 0, 0⟩ (by kernel_rfl) (.inl (by kernel_rfl))
theorem nparse15 : parseF [49, 32, 97, 98, 111, 114, 116, 32, 54, 32, 49] = (ev0, 4) := parse_bad ⟨10, 1, 0, 1, 0, 0, 6⟩ (by kernel_rfl) (.inl (by kernel_rfl))
theorem nparse16 : parseF [49, 32, 98, 101, 103, 105, 110, 32, 54, 32, 48] = (ev0, 4) := parse_bad ⟨1, 1, 6, 0, 0, 0, 0⟩ (by kernel_rfl) (.inl (by kernel_rfl))
theorem nparse_least : parseF [53, 32, 115, 116, 111, 114, 101, 32, 51, 49, 32, 45, 57, 50, 50, 51, 51, 55, 50, 48, 51, 54, 56, 53, 52, 55, 55, 53, 56, 48, 56] = (⟨8, 5, 0, 31, 0, -9223372036854775808, 0⟩, 0) := by
  have := parse_show (e := ⟨8, 5, 0, 31, 0, -9223372036854775808, 0⟩) (by kernel_rfl)
  rwa [nshow_least] at this
theorem nm_empty : bsW (nmL 0) = ⟨#[]⟩ ∧ bsW (nmL 14) = ⟨#[]⟩ := ⟨rfl, rfl⟩
section
variable {a : Act} {w : World} {K : Act → World → Prop} {Q : Exit → Act → World → Prop} {o : Oper}
theorem v_field38a (x : Nat) {g : Nat} (ho : o.op = .fieldAddr 38 (.tmp x) 0) (hx : a.tmps[x]?.getD undef = .pointer (some ⟨g, 0, none⟩)) (hK : K (a.put o.dst (.pointer (some ⟨g, 0, none⟩))) w) : Oper.wp Tryd.prog o a w K Q := by
  obtain ⟨dst, op, type, pos, after, guard⟩ := o
  have ho' : op = _ := ho
  subst ho'
  clear ho
  go_simp
  exact hK
theorem v_field38b (x : Nat) {g : Nat} (ho : o.op = .fieldAddr 38 (.tmp x) 1) (hx : a.tmps[x]?.getD undef = .pointer (some ⟨g, 0, none⟩)) (hK : K (a.put o.dst (.pointer (some ⟨g, 7, none⟩))) w) : Oper.wp Tryd.prog o a w K Q := by
  obtain ⟨dst, op, type, pos, after, guard⟩ := o
  have ho' : op = _ := ho
  subst ho'
  clear ho
  go_simp
  exact hK
theorem v_load8 (x : Nat) {g : Nat} {kd th tx pl v xe why : Int} {m : Bool} (ho : o.op = .load 23 (.tmp x)) (hx : a.tmps[x]?.getD undef = .pointer (some ⟨g, 0, none⟩)) (hg : w.heap[g]? = some (.cells #[.int .u8 kd, .int .i64 th, .int .i64 tx, .int .i64 pl, .int .i64 v, .int .i64 xe, .int .u8 why, .bool m] 38 (0, 0))) (hK : K (a.put o.dst (.agg #[.int .u8 kd, .int .i64 th, .int .i64 tx, .int .i64 pl, .int .i64 v, .int .i64 xe, .int .u8 why])) w) : Oper.wp Tryd.prog o a w K Q := by
  obtain ⟨dst, op, type, pos, after, guard⟩ := o
  have ho' : op = _ := ho
  subst ho'
  clear ho
  have x0 : w.cell? ⟨g, 0, none⟩ = some (.int .u8 kd) := cell_of_row w g 0 _ _ _ hg
  have x1 : w.cell? ⟨g, 1, none⟩ = some (.int .i64 th) := cell_of_row w g 1 _ _ _ hg
  have x2 : w.cell? ⟨g, 2, none⟩ = some (.int .i64 tx) := cell_of_row w g 2 _ _ _ hg
  have x3 : w.cell? ⟨g, 3, none⟩ = some (.int .i64 pl) := cell_of_row w g 3 _ _ _ hg
  have x4 : w.cell? ⟨g, 4, none⟩ = some (.int .i64 v) := cell_of_row w g 4 _ _ _ hg
  have x5 : w.cell? ⟨g, 5, none⟩ = some (.int .i64 xe) := cell_of_row w g 5 _ _ _ hg
  have x6 : w.cell? ⟨g, 6, none⟩ = some (.int .u8 why) := cell_of_row w g 6 _ _ _ hg
  clear hg
  go_simp
  exact hK
end
noncomputable def regN13_ops : Array Oper := opsW Tryd.f5 13
def regN13_ds : List Nat := [117, 118, 119, 120, 121, 122]
set_option maxRecDepth 100000 in
set_option maxHeartbeats 4000000 in
theorem regN13 {id : Nat} {ops : Array Oper} (hops : ops = regN13_ops) (T0 : Array Value) (hsz : 123 ≤ T0.size) (W : World) (g : Nat) (kd th tx pl v xe why : Int) (m : Bool) (hg : ∀ wx, Below W.heap.size W wx → wx.heap[g]? = some (.cells #[.int .u8 kd, .int .i64 th, .int .i64 tx, .int .i64 pl, .int .i64 v, .int .i64 xe, .int .u8 why, .bool m] 38 (0, 0))) (H1 : ∀ wx, Below W.heap.size W wx → Calls Tryd.prog 14 #[.agg #[.int .u8 kd, .int .i64 th, .int .i64 tx, .int .i64 pl, .int .i64 v, .int .i64 xe, .int .u8 why], .int .i64 3, .int .i64 4, .int .i64 2] wx fun r w' => r = .returned (.bool m) ∧ Below wx.heap.size wx w') (h7 : T0[7]? = some (.pointer (some ⟨g, 0, none⟩))) {Q : Exit → Act → World → Prop}
    (hend : ∀ (us : List Value) (w : World), us.length = 6 → Below W.heap.size W w → us.getD 5 undef = .bool false → Q .normal ⟨putAll T0 regN13_ds us, []⟩ w) : (Code.region id ops true).wp Tryd.prog Q ⟨T0, []⟩ W := by
  subst hops
  have hos : regN13_ops.size = 6 := by kernel_rfl
  have hga : (List.range 6).all (fun i => match regN13_ops[i]? with | some o => o.guard == ([none, none, none, none, none, none] : List (Option (Nat × Bool))).getD i none | none => false) = true := by kernel_rfl
  refine wp_region_vals3 ([.pointer (some ⟨g, 0, none⟩), .agg #[.int .u8 kd, .int .i64 th, .int .i64 tx, .int .i64 pl, .int .i64 v, .int .i64 xe, .int .u8 why], .bool m, .pointer (some ⟨g, 7, none⟩), .bool m, .bool false] : List Value) [true, true, true, true, true, true] regN13_ds W T0 (by decide) (fun x hx => ?_) (by kernel_rfl) (by kernel_rfl) (fun i o j want ho hg => ?_) ?_ ?_
  · have hall : (regN13_ds.all fun d => decide (d < 123)) = true := by decide
    have := List.all_eq_true.1 hall x hx
    simp only [decide_eq_true_eq] at this
    omega
  · have hi : i < 6 := by rw [← hos]; exact (Array.getElem?_eq_some_iff.1 ho).1
    have h1 := List.all_eq_true.1 hga i (by simpa using hi)
    rw [ho] at h1
    simp only [hg, beq_iff_eq] at h1
    match i, hi with
    | 0, _ => cases h1
    | 1, _ => cases h1
    | 2, _ => cases h1
    | 3, _ => cases h1
    | 4, _ => cases h1
    | 5, _ => cases h1
    | i + 6, h => exact absurd (show i + 6 < 6 from h) (by omega)
  · intro i o ho hi hon a w hT hU hb K hK
    have hT0 : ∀ t v, t ∉ regN13_ds → T0[t]? = some v → a.tmps[t]?.getD undef = v := fun t v ht hv => by rw [hT t ht, hv]; rfl
    match i, hi with
    | 0, _ => exact v_field38a 7 (opAtW ho (by kernel_rfl)) (hT0 7 _ (by decide) h7) (hK _ (Below.refl _ _))
    | 1, _ => exact v_load8 117 (opAtW ho (by kernel_rfl)) (hU 0 (by kernel_rfl) rfl) (hg w hb) (hK _ (Below.refl _ _))
    | 2, _ => exact v_may342 118 (opAtW ho (by kernel_rfl)) (hU 1 (by kernel_rfl) rfl) (H1 w hb) (fun w' hb' => hK w' hb')
    | 3, _ => exact v_field38b 7 (opAtW ho (by kernel_rfl)) (hT0 7 _ (by decide) h7) (hK _ (Below.refl _ _))
    | 4, _ => exact v_loadb 120 (opAtW ho (by kernel_rfl)) (hU 3 (by kernel_rfl) rfl) (cell_of_row w g 7 _ _ _ (hg w hb)) (hK _ (Below.refl _ _))
    | 5, _ => exact v_neqb 119 121 (opAtW ho (by kernel_rfl)) (hU 2 (by kernel_rfl) rfl) (hU 4 (by kernel_rfl) rfl) (by simp) (hK _ (Below.refl _ _))
    | i + 6, h => exact absurd (show i + 6 < 6 from h) (by omega)
  · intro us w hu hb hv
    exact hend us w hu hb (hv 5 (by decide) rfl)
end Go.Proofs.YtjholjlmlglgnaaDoor
