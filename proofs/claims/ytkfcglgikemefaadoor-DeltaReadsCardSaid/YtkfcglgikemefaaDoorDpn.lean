/-
  SEVERAL TEXTS IN ONE (a claim has sixty files at most): Dpf, Dpg: the head of each stands ahead of it. No condition but theirs.
-/
import Derived.Test.YtkfcglgikemefaaDoorDpd
import Derived.Test.YtkfcglgikemefaaDoorDpe
import Derived.Test.YtkfcglgikemefaaDoorDpm
/-
  THE DOCUMENT'S CODER: CONTRACT OF Read. Laid by gen/gen_dpc.py. Conditions: a coder, a reader.
-/
namespace Go.Proofs.YtkfcglgikemefaaDoor
set_option maxRecDepth 100000
open Go.RowKit Go.Deep
set_option linter.unusedVariables false
set_option linter.unusedSimpArgs false
theorem rread_any (q : Cd) (hq : CdOk q) (gr gc : Nat) (S : ByteArray) (a : Nat) (wr : Int) (w : World) (hr : RRd w gr S a wr) (hc : RCod w gc q) (hne : gr ≠ gc) :
    Calls Tryd.prog 21 #[.pointer (some ⟨gc, 0, none⟩), .pointer (some ⟨gr, 0, none⟩)] w (RdEnd gr gc S q (rdX q S a wr) w) := by
  obtain ⟨k0, k1, _⟩ := who_b q hq S (a, wr) ev0
  have hk : (whoP q (nmR S) ev0 (a, wr)).1.kd = 1 ∨ (whoP q (nmR S) ev0 (a, wr)).1.kd = 2 ∨ (whoP q (nmR S) ev0 (a, wr)).1.kd = 3 ∨ (whoP q (nmR S) ev0 (a, wr)).1.kd = 4 ∨ (whoP q (nmR S) ev0 (a, wr)).1.kd = 5 ∨ (whoP q (nmR S) ev0 (a, wr)).1.kd = 6 ∨ (whoP q (nmR S) ev0 (a, wr)).1.kd = 7 ∨ (whoP q (nmR S) ev0 (a, wr)).1.kd = 8 ∨ (whoP q (nmR S) ev0 (a, wr)).1.kd = 9 ∨ (whoP q (nmR S) ev0 (a, wr)).1.kd = 10 ∨ (whoP q (nmR S) ev0 (a, wr)).1.kd = 11 ∨ (whoP q (nmR S) ev0 (a, wr)).1.kd = 12 ∨ (whoP q (nmR S) ev0 (a, wr)).1.kd = 13 := by omega
  rcases hk with h | h | h | h | h | h | h | h | h | h | h | h | h
  · exact rread_1 q hq gr gc S a wr w hr hc hne h
  · exact rread_2 q hq gr gc S a wr w hr hc hne h
  · exact rread_3 q hq gr gc S a wr w hr hc hne h
  · exact rread_4 q hq gr gc S a wr w hr hc hne h
  · exact rread_5 q hq gr gc S a wr w hr hc hne h
  · exact rread_6 q hq gr gc S a wr w hr hc hne h
  · exact rread_7 q hq gr gc S a wr w hr hc hne h
  · exact rread_8 q hq gr gc S a wr w hr hc hne h
  · exact rread_9 q hq gr gc S a wr w hr hc hne h
  · exact rread_10 q hq gr gc S a wr w hr hc hne h
  · exact rread_11 q hq gr gc S a wr w hr hc hne h
  · exact rread_12 q hq gr gc S a wr w hr hc hne h
  · exact rread_13 q hq gr gc S a wr w hr hc hne h
end Go.Proofs.YtkfcglgikemefaaDoor
/-
  P14.1: THE WALK OF DeltaReads. Laid by gen/gen_dpg.py. Conditions: the table of names lies.
-/
namespace Go.Proofs.YtkfcglgikemefaaDoor
set_option maxRecDepth 100000
open Go.RowKit Go.Deep
set_option linter.unusedVariables false
set_option linter.unusedSimpArgs false
section
variable {a : Act} {w : World} {K : Act → World → Prop} {Q : Exit → Act → World → Prop} {o : Oper}
theorem g_neqE (x y : Nat) {e : Ev} (ho : o.op = .binOp .neq 46 (.tmp x) (.tmp y) 46) (hx : a.tmps[x]?.getD undef = .agg (evC e)) (hy : a.tmps[y]?.getD undef = .agg (evC e)) (hK : K (a.put o.dst (.bool false)) w) : Oper.wp Tryd.prog o a w K Q := by
  obtain ⟨dst, op, type, pos, after, guard⟩ := o
  have ho' : op = _ := ho
  subst ho'
  clear ho
  unfold evC at hx hy
  go_simp
  exact hK
theorem g_neqi (x y : Nat) {n : Int} (ho : o.op = .binOp .neq 3 (.tmp x) (.tmp y) 3) (hx : a.tmps[x]?.getD undef = .int .i64 n) (hy : a.tmps[y]?.getD undef = .int .i64 n) (hK : K (a.put o.dst (.bool false)) w) : Oper.wp Tryd.prog o a w K Q := by
  obtain ⟨dst, op, type, pos, after, guard⟩ := o
  have ho' : op = _ := ho
  subst ho'
  clear ho
  go_simp
  exact hK
theorem g_neqX (x y : Nat) {n : Int} (ho : o.op = .binOp .neq 25 (.tmp x) (.tmp y) 25) (hx : a.tmps[x]?.getD undef = .int .i64 n) (hy : a.tmps[y]?.getD undef = .int .i64 n) (hK : K (a.put o.dst (.bool false)) w) : Oper.wp Tryd.prog o a w K Q := by
  obtain ⟨dst, op, type, pos, after, guard⟩ := o
  have ho' : op = _ := ho
  subst ho'
  clear ho
  go_simp
  exact hK
theorem g_orF (x y : Nat) {v : Value} (ho : o.op = .pick (.tmp x) (.const (.bool true)) (.tmp y)) (hx : a.tmps[x]?.getD undef = .bool false) (hy : a.tmps[y]?.getD undef = v) (hK : K (a.put o.dst (v)) w) : Oper.wp Tryd.prog o a w K Q := by
  obtain ⟨dst, op, type, pos, after, guard⟩ := o
  have ho' : op = _ := ho
  subst ho'
  clear ho
  subst hy
  go_simp
  exact hK
theorem g_fR (x : Nat) {g : Nat} (ho : o.op = .fieldAddr 64 (.tmp x) 1) (hx : a.tmps[x]?.getD undef = .pointer (some ⟨g, 0, none⟩)) (hK : K (a.put o.dst (.pointer (some ⟨g, 1, none⟩))) w) : Oper.wp Tryd.prog o a w K Q := by
  obtain ⟨dst, op, type, pos, after, guard⟩ := o
  have ho' : op = _ := ho
  subst ho'
  clear ho
  go_simp
  exact hK
end
noncomputable def rgDr_ops : Array Oper := opsW Tryd.f5 20
def rgDr_D : List (Option Nat) := [some 92, some 93, some 94, some 95, some 96, some 97, some 98, some 99, some 100, some 101, some 102, some 103, some 104, some 105, some 106, some 107, some 108, some 109, some 110, some 111, some 112, some 113, some 114, some 115, some 116, some 117, some 118]
set_option maxRecDepth 100000 in
set_option maxHeartbeats 4000000 in
theorem rgDr {id : Nat} {ops : Array Oper} (hops : ops = rgDr_ops) (T0 : Array Value) (hsz : 119 ≤ T0.size) (W : World) (gr gq g18 g20 : Nat) (V : Ev) (e p f : Int) (S : ByteArray) (at_ : Nat) (wr : Int) (r1 : EvO W g18 V) (r2 : EvO W g20 V) (h8 : Rd W gr S at_ wr) (h9 : RRd W gq S at_ wr) (h13 : T0[13]? = some (.pointer (some ⟨gr, 0, none⟩))) (h15 : T0[15]? = some (.pointer (some ⟨gq, 0, none⟩))) (h18 : T0[18]? = some (.pointer (some ⟨g18, 0, none⟩))) (h20 : T0[20]? = some (.pointer (some ⟨g20, 0, none⟩))) (h19 : T0[19]? = some (.int .i64 e)) (h21 : T0[21]? = some (.int .i64 e)) (h22 : T0[22]? = some (.int .i64 p)) (h24 : T0[24]? = some (.int .i64 p)) (h23 : T0[23]? = some (.int .i64 f)) (h25 : T0[25]? = some (.int .i64 f)) {Q : Exit → Act → World → Prop}
    (hend : ∀ w : World, Below W.heap.size W w → Q .normal ⟨putAll T0 [92, 93, 94, 95, 96, 97, 98, 99, 100, 101, 102, 103, 104, 105, 106, 107, 108, 109, 110, 111, 112, 113, 114, 115, 116, 117, 118] [.agg (evC V), .agg (evC V), .bool false, .bool false, .int .i64 e, .int .i64 e, .bool false, .bool false, .bool false, .pointer (some ⟨gr, 0, none⟩), .int .i64 (at_ : Int), .pointer (some ⟨gq, 0, none⟩), .pointer (some ⟨gq, 0, none⟩), .pointer (some ⟨gq, 1, none⟩), .int .i64 (at_ : Int), .bool false, .bool false, .bool false, .int .i64 p, .int .i64 p, .bool false, .bool false, .bool false, .int .i64 f, .int .i64 f, .bool false, .bool false], []⟩ w) : (Code.region id ops true).wp Tryd.prog Q ⟨T0, []⟩ W := by
  subst hops
  have hos : rgDr_ops.size = 27 := by kernel_rfl
  have hga : (List.range 27).all (fun i => match rgDr_ops[i]? with | some o => o.guard == ([none, none, none, none, some (3, false), some (3, false), some (3, false), none, none, some (8, false), some (8, false), some (8, false), some (8, false), some (8, false), some (8, false), some (8, false), none, none, some (17, false), some (17, false), some (17, false), none, none, some (22, false), some (22, false), some (22, false), none] : List (Option (Nat × Bool))).getD i none | none => false) = true := by kernel_rfl
  have hds : ((pairsS rgDr_D ([.agg (evC V), .agg (evC V), .bool false, .bool false, .int .i64 e, .int .i64 e, .bool false, .bool false, .bool false, .pointer (some ⟨gr, 0, none⟩), .int .i64 (at_ : Int), .pointer (some ⟨gq, 0, none⟩), .pointer (some ⟨gq, 0, none⟩), .pointer (some ⟨gq, 1, none⟩), .int .i64 (at_ : Int), .bool false, .bool false, .bool false, .int .i64 p, .int .i64 p, .bool false, .bool false, .bool false, .int .i64 f, .int .i64 f, .bool false, .bool false] : List Value)).map (·.1)) = [92, 93, 94, 95, 96, 97, 98, 99, 100, 101, 102, 103, 104, 105, 106, 107, 108, 109, 110, 111, 112, 113, 114, 115, 116, 117, 118] := rfl
  refine wp_region_valsN ([.agg (evC V), .agg (evC V), .bool false, .bool false, .int .i64 e, .int .i64 e, .bool false, .bool false, .bool false, .pointer (some ⟨gr, 0, none⟩), .int .i64 (at_ : Int), .pointer (some ⟨gq, 0, none⟩), .pointer (some ⟨gq, 0, none⟩), .pointer (some ⟨gq, 1, none⟩), .int .i64 (at_ : Int), .bool false, .bool false, .bool false, .int .i64 p, .int .i64 p, .bool false, .bool false, .bool false, .int .i64 f, .int .i64 f, .bool false, .bool false] : List Value) [true, true, true, true, true, true, true, true, true, true, true, true, true, true, true, true, true, true, true, true, true, true, true, true, true, true, true] rgDr_D (fun don w => Below W.heap.size W w) W T0 (by rw [hds]; decide) (fun x hx => ?_) (by kernel_rfl) (by kernel_rfl) (fun i o j want ho hg => ?_) (fun i hi hon => ?_) (fun i hi hon don w hM => ?_) ((Below.refl _ _).drew) ?_ ?_
  · rw [hds] at hx
    have hall : (([92, 93, 94, 95, 96, 97, 98, 99, 100, 101, 102, 103, 104, 105, 106, 107, 108, 109, 110, 111, 112, 113, 114, 115, 116, 117, 118] : List Nat).all fun d => decide (d < 119)) = true := by decide
    have := List.all_eq_true.1 hall x hx
    simp only [decide_eq_true_eq] at this
    omega
  · have hi : i < 27 := by rw [← hos]; exact (Array.getElem?_eq_some_iff.1 ho).1
    have h1 := List.all_eq_true.1 hga i (by simpa using hi)
    rw [ho] at h1
    simp only [hg, beq_iff_eq] at h1
    match i, hi with
    | 0, _ => cases h1
    | 1, _ => cases h1
    | 2, _ => cases h1
    | 3, _ => cases h1
    | 4, _ => obtain ⟨rfl, rfl⟩ := Prod.mk.inj (Option.some.inj h1); exact .inl rfl
    | 5, _ => obtain ⟨rfl, rfl⟩ := Prod.mk.inj (Option.some.inj h1); exact .inl rfl
    | 6, _ => obtain ⟨rfl, rfl⟩ := Prod.mk.inj (Option.some.inj h1); exact .inl rfl
    | 7, _ => cases h1
    | 8, _ => cases h1
    | 9, _ => obtain ⟨rfl, rfl⟩ := Prod.mk.inj (Option.some.inj h1); exact .inl rfl
    | 10, _ => obtain ⟨rfl, rfl⟩ := Prod.mk.inj (Option.some.inj h1); exact .inl rfl
    | 11, _ => obtain ⟨rfl, rfl⟩ := Prod.mk.inj (Option.some.inj h1); exact .inl rfl
    | 12, _ => obtain ⟨rfl, rfl⟩ := Prod.mk.inj (Option.some.inj h1); exact .inl rfl
    | 13, _ => obtain ⟨rfl, rfl⟩ := Prod.mk.inj (Option.some.inj h1); exact .inl rfl
    | 14, _ => obtain ⟨rfl, rfl⟩ := Prod.mk.inj (Option.some.inj h1); exact .inl rfl
    | 15, _ => obtain ⟨rfl, rfl⟩ := Prod.mk.inj (Option.some.inj h1); exact .inl rfl
    | 16, _ => cases h1
    | 17, _ => cases h1
    | 18, _ => obtain ⟨rfl, rfl⟩ := Prod.mk.inj (Option.some.inj h1); exact .inl rfl
    | 19, _ => obtain ⟨rfl, rfl⟩ := Prod.mk.inj (Option.some.inj h1); exact .inl rfl
    | 20, _ => obtain ⟨rfl, rfl⟩ := Prod.mk.inj (Option.some.inj h1); exact .inl rfl
    | 21, _ => cases h1
    | 22, _ => cases h1
    | 23, _ => obtain ⟨rfl, rfl⟩ := Prod.mk.inj (Option.some.inj h1); exact .inl rfl
    | 24, _ => obtain ⟨rfl, rfl⟩ := Prod.mk.inj (Option.some.inj h1); exact .inl rfl
    | 25, _ => obtain ⟨rfl, rfl⟩ := Prod.mk.inj (Option.some.inj h1); exact .inl rfl
    | 26, _ => cases h1
    | i + 27, h => exact absurd (show i + 27 < 27 from h) (by omega)
  · match i, hi with
    | 0, _ => cases hon
    | 1, _ => cases hon
    | 2, _ => cases hon
    | 3, _ => cases hon
    | 4, _ => cases hon
    | 5, _ => cases hon
    | 6, _ => cases hon
    | 7, _ => cases hon
    | 8, _ => cases hon
    | 9, _ => cases hon
    | 10, _ => cases hon
    | 11, _ => cases hon
    | 12, _ => cases hon
    | 13, _ => cases hon
    | 14, _ => cases hon
    | 15, _ => cases hon
    | 16, _ => cases hon
    | 17, _ => cases hon
    | 18, _ => cases hon
    | 19, _ => cases hon
    | 20, _ => cases hon
    | 21, _ => cases hon
    | 22, _ => cases hon
    | 23, _ => cases hon
    | 24, _ => cases hon
    | 25, _ => cases hon
    | 26, _ => cases hon
    | i + 27, h => exact absurd (show i + 27 < 27 from h) (by omega)
  · match i, hi with
    | 0, _ => cases hon
    | 1, _ => cases hon
    | 2, _ => cases hon
    | 3, _ => cases hon
    | 4, _ => cases hon
    | 5, _ => cases hon
    | 6, _ => cases hon
    | 7, _ => cases hon
    | 8, _ => cases hon
    | 9, _ => cases hon
    | 10, _ => cases hon
    | 11, _ => cases hon
    | 12, _ => cases hon
    | 13, _ => cases hon
    | 14, _ => cases hon
    | 15, _ => cases hon
    | 16, _ => cases hon
    | 17, _ => cases hon
    | 18, _ => cases hon
    | 19, _ => cases hon
    | 20, _ => cases hon
    | 21, _ => cases hon
    | 22, _ => cases hon
    | 23, _ => cases hon
    | 24, _ => cases hon
    | 25, _ => cases hon
    | 26, _ => cases hon
    | i + 27, h => exact absurd (show i + 27 < 27 from h) (by omega)
  · intro i oo ho hi hon don a w hT hU hdi hM K hK
    rw [hds] at hT
    have hT0 : ∀ t v, t ∉ ([92, 93, 94, 95, 96, 97, 98, 99, 100, 101, 102, 103, 104, 105, 106, 107, 108, 109, 110, 111, 112, 113, 114, 115, 116, 117, 118] : List Nat) → T0[t]? = some v → a.tmps[t]?.getD undef = v := fun t v ht hv => by rw [hT t ht, hv]; rfl
    match i, hi with
    | 0, _ =>
      have xx : a.tmps[18]?.getD undef = .pointer (some ⟨g18, 0, none⟩) := (hT0 18 _ (by decide) h18)
      exact wp_load_row 46 (.tmp 18) (opAtW ho (by kernel_rfl)) g18 (by simpa [Act.eval, Array.getD_eq_getD_getElem?] using xx) 46 _ (0, 0) _ (r1.below hM) Tryd.underlying46 rfl (by kernel_rfl) (hK w hM)
    | 1, _ =>
      have xx : a.tmps[20]?.getD undef = .pointer (some ⟨g20, 0, none⟩) := (hT0 20 _ (by decide) h20)
      exact wp_load_row 46 (.tmp 20) (opAtW ho (by kernel_rfl)) g20 (by simpa [Act.eval, Array.getD_eq_getD_getElem?] using xx) 46 _ (0, 0) _ (r2.below hM) Tryd.underlying46 rfl (by kernel_rfl) (hK w hM)
    | 2, _ =>
      exact g_neqE 92 93 (opAtW ho (by kernel_rfl)) ((hU 0 (by kernel_rfl)).2 92 rfl) ((hU 1 (by kernel_rfl)).2 93 rfl) (hK w hM)
    | 3, _ => exact v_move 94 (opAtW ho (by kernel_rfl)) ((hU 2 (by kernel_rfl)).2 94 rfl) (hK w hM)
    | 4, _ => exact v_move 19 (opAtW ho (by kernel_rfl)) (hT0 19 _ (by decide) h19) (hK w hM)
    | 5, _ => exact v_move 21 (opAtW ho (by kernel_rfl)) (hT0 21 _ (by decide) h21) (hK w hM)
    | 6, _ =>
      exact g_neqX 96 97 (opAtW ho (by kernel_rfl)) ((hU 4 (by kernel_rfl)).2 96 rfl) ((hU 5 (by kernel_rfl)).2 97 rfl) (hK w hM)
    | 7, _ => exact g_orF 95 98 (opAtW ho (by kernel_rfl)) ((hU 3 (by kernel_rfl)).2 95 rfl) ((hU 6 (by kernel_rfl)).2 98 rfl) (hK w hM)
    | 8, _ => exact v_move 99 (opAtW ho (by kernel_rfl)) ((hU 7 (by kernel_rfl)).2 99 rfl) (hK w hM)
    | 9, _ => exact v_move 13 (opAtW ho (by kernel_rfl)) (hT0 13 _ (by decide) h13) (hK w hM)
    | 10, _ =>
      have xr : a.tmps[101]?.getD undef = .pointer (some ⟨gr, 0, none⟩) := ((hU 9 (by kernel_rfl)).2 101 rfl)
      have hr : Rd w gr S at_ wr := ⟨(hM.block gr (Array.getElem?_eq_some_iff.1 h8.1).1).trans h8.1, h8.2⟩
      obtain ⟨dst, op, type, pos, after, guard⟩ := oo
      have ho' : op = .call { callee := .value (.func 24), args := #[.tmp 101], argTypes := #[52] } := (opAtW ho (by kernel_rfl))
      subst ho'
      clear ho hT hU hT0
      have hfun := Tryd.func24
      have HA := Lib.hid (at_any gr S at_ wr w hr)
      clear hr
      go_simp
      refine HA.out.mono ?_
      rintro _ w' ⟨rfl, rfl⟩
      exact hK w hM
    | 11, _ => exact v_move 15 (opAtW ho (by kernel_rfl)) (hT0 15 _ (by decide) h15) (hK w hM)
    | 12, _ =>
      exact d_nil 103 (opAtW ho (by kernel_rfl)) ((hU 11 (by kernel_rfl)).2 103 rfl) (hK w hM)
    | 13, _ =>
      exact g_fR 104 (opAtW ho (by kernel_rfl)) ((hU 12 (by kernel_rfl)).2 104 rfl) (hK w hM)
    | 14, _ =>
      exact d_ldi 105 (opAtW ho (by kernel_rfl)) ((hU 13 (by kernel_rfl)).2 105 rfl) (by
        have hr : w.heap[gq]? = _ := (hM.block gq (Array.getElem?_eq_some_iff.1 h9.1).1).trans h9.1
        have h := cell_of_row w gq 1 _ _ _ hr
        simpa using h) (hK w hM)
    | 15, _ =>
      exact g_neqi 102 106 (opAtW ho (by kernel_rfl)) ((hU 10 (by kernel_rfl)).2 102 rfl) ((hU 14 (by kernel_rfl)).2 106 rfl) (hK w hM)
    | 16, _ => exact g_orF 100 107 (opAtW ho (by kernel_rfl)) ((hU 8 (by kernel_rfl)).2 100 rfl) ((hU 15 (by kernel_rfl)).2 107 rfl) (hK w hM)
    | 17, _ => exact v_move 108 (opAtW ho (by kernel_rfl)) ((hU 16 (by kernel_rfl)).2 108 rfl) (hK w hM)
    | 18, _ => exact v_move 22 (opAtW ho (by kernel_rfl)) (hT0 22 _ (by decide) h22) (hK w hM)
    | 19, _ => exact v_move 24 (opAtW ho (by kernel_rfl)) (hT0 24 _ (by decide) h24) (hK w hM)
    | 20, _ =>
      exact g_neqi 110 111 (opAtW ho (by kernel_rfl)) ((hU 18 (by kernel_rfl)).2 110 rfl) ((hU 19 (by kernel_rfl)).2 111 rfl) (hK w hM)
    | 21, _ => exact g_orF 109 112 (opAtW ho (by kernel_rfl)) ((hU 17 (by kernel_rfl)).2 109 rfl) ((hU 20 (by kernel_rfl)).2 112 rfl) (hK w hM)
    | 22, _ => exact v_move 113 (opAtW ho (by kernel_rfl)) ((hU 21 (by kernel_rfl)).2 113 rfl) (hK w hM)
    | 23, _ => exact v_move 23 (opAtW ho (by kernel_rfl)) (hT0 23 _ (by decide) h23) (hK w hM)
    | 24, _ => exact v_move 25 (opAtW ho (by kernel_rfl)) (hT0 25 _ (by decide) h25) (hK w hM)
    | 25, _ =>
      exact g_neqX 115 116 (opAtW ho (by kernel_rfl)) ((hU 23 (by kernel_rfl)).2 115 rfl) ((hU 24 (by kernel_rfl)).2 116 rfl) (hK w hM)
    | 26, _ => exact g_orF 114 117 (opAtW ho (by kernel_rfl)) ((hU 22 (by kernel_rfl)).2 114 rfl) ((hU 25 (by kernel_rfl)).2 117 rfl) (hK w hM)
    | i + 27, h => exact absurd (show i + 27 < 27 from h) (by omega)
  · intro w hM
    exact hend w (hM)

/-- Both coders and both readers, alike. -/
structure R14 (w0 : World) (gc gd gr gq : Nat) (S : ByteArray) (q : Cd) (x : Nat × Int) (w : World) : Prop where
  bel : Below w0.heap.size w0 w
  cod : CodAt w gc q
  rd : Rd w gr S x.1 x.2
  rcod : RCod w gd q
  rrd : RRd w gq S x.1 x.2
  ok : CdOk q
  n1 : w0.heap.size ≤ gc
  n2 : gc < gd
  n3 : gd < gr
  n4 : gr < gq
section
variable {w0 w w' : World} {gc gd gr gq : Nat} {S : ByteArray} {q q' : Cd} {x x' : Nat × Int}
theorem R14.below (h : R14 w0 gc gd gr gq S q x w) (b : Below w.heap.size w w') : R14 w0 gc gd gr gq S q x w' :=
  ⟨h.bel.trans (b.mono h.bel.size), h.cod.below b, ⟨(b.block gr (Array.getElem?_eq_some_iff.1 h.rd.1).1).trans h.rd.1, h.rd.2⟩, h.rcod.below b, ⟨(b.block gq (Array.getElem?_eq_some_iff.1 h.rrd.1).1).trans h.rrd.1, h.rrd.2⟩, h.ok, h.n1, h.n2, h.n3, h.n4⟩
/-- Behind the program's Read. -/
structure R14h (w0 : World) (gc gd gr gq : Nat) (S : ByteArray) (q q' : Cd) (x x' : Nat × Int) (w : World) : Prop where
  bel : Below w0.heap.size w0 w
  cod : CodAt w gc q'
  rd : Rd w gr S x'.1 x'.2
  rcod : RCod w gd q
  rrd : RRd w gq S x.1 x.2
  n1 : w0.heap.size ≤ gc
  n2 : gc < gd
  n3 : gd < gr
  n4 : gr < gq
theorem R14.one (h : R14 w0 gc gd gr gq S q x w) (h1 : Rd w' gr S x'.1 x'.2) (h2 : CodAt w' gc q') (k : Kp gr (some gc) w w') : R14h w0 gc gd gr gq S q q' x x' w' := by
  have n1 := h.n1; have n2 := h.n2; have n3 := h.n3; have n4 := h.n4; have hs := h.bel.size
  refine ⟨⟨k.os.trans h.bel.os, k.tape.trans h.bel.tape, k.output.trans h.bel.output, Nat.le_trans hs k.size, fun i hi => (k.block i (by omega) (by omega) (by simp; omega)).trans (h.bel.block i hi)⟩, h2, h1, h.rcod.same (k.block gd h.rcod.lt (by omega) (by simp; omega)), ⟨(k.block gq (Array.getElem?_eq_some_iff.1 h.rrd.1).1 (by omega) (by simp; omega)).trans h.rrd.1, h.rrd.2⟩, n1, n2, n3, n4⟩
theorem R14h.below (h : R14h w0 gc gd gr gq S q q' x x' w) (b : Below w.heap.size w w') : R14h w0 gc gd gr gq S q q' x x' w' :=
  ⟨h.bel.trans (b.mono h.bel.size), h.cod.below b, ⟨(b.block gr (Array.getElem?_eq_some_iff.1 h.rd.1).1).trans h.rd.1, h.rd.2⟩, h.rcod.below b, ⟨(b.block gq (Array.getElem?_eq_some_iff.1 h.rrd.1).1).trans h.rrd.1, h.rrd.2⟩, h.n1, h.n2, h.n3, h.n4⟩
theorem R14h.two (h : R14h w0 gc gd gr gq S q q' x x' w) (h1 : RRd w' gq S x'.1 x'.2) (h2 : RCod w' gd q') (hq : CdOk q') (k : Kp gq (some gd) w w') : R14 w0 gc gd gr gq S q' x' w' := by
  have n1 := h.n1; have n2 := h.n2; have n3 := h.n3; have n4 := h.n4; have hs := h.bel.size
  refine ⟨⟨k.os.trans h.bel.os, k.tape.trans h.bel.tape, k.output.trans h.bel.output, Nat.le_trans hs k.size, fun i hi => (k.block i (by omega) (by omega) (by simp; omega)).trans (h.bel.block i hi)⟩, h.cod.same (k.block gc h.cod.lt (by omega) (by simp; omega)), ⟨(k.block gr (Array.getElem?_eq_some_iff.1 h.rd.1).1 (by omega) (by simp; omega)).trans h.rd.1, h.rd.2⟩, h2, h1, hq, n1, n2, n3, n4⟩
end
set_option maxHeartbeats 4000000 in
theorem reads_walk (w : World) (hek : Ek w) (T V S : Int) (s : ByteArray) (hT : -9223372036854775808 ≤ T ∧ T ≤ 9223372036854775807) (hV : -9223372036854775808 ≤ V ∧ V ≤ 9223372036854775807) (hS : -9223372036854775808 ≤ S ∧ S ≤ 9223372036854775807) (hs0 : s.size ≤ 9223372036854775807) :
    Calls Tryd.prog 5 #[.int .i64 T, .int .i64 V, .int .i64 S, .string s] w fun r w' => r = .returned (.bool true) ∧ Below w.heap.size w w' := by
  have HAW := Lib.hid (fun w' (hb : Below w.heap.size w w') => awake_any14 w' (hek.below hb))
  clear hek
  by_cases hlt : 5000 < (s.size : Int)
  · go_enter Tryd.func5, Tryd.ntmps5
    go_wp2_with fail
    refine (HAW.out w (Below.refl _ _)).mono ?_
    rintro _ w1 ⟨rfl, b1⟩
    go_wp2_with fail
    go_ret
    exact ⟨rfl, b1⟩
  have hsz : sizeD T V S = true ∨ sizeD T V S = false := by cases sizeD T V S <;> simp
  rcases hsz with hz | hz
  rotate_left
  · have HN := Lib.hid (fun W => new_noD T V S hz W)
    have HR := Lib.hid (fun W => rnew_no T V S hz W)
    clear hz hT hV hS
    go_enter Tryd.func5, Tryd.ntmps5
    go_wp2_with fail
    refine (HN.out w).mono ?_
    rintro _ wz ⟨rfl, rfl⟩
    go_wp2_with fail
    refine (HR.out w).mono ?_
    rintro _ wz ⟨rfl, rfl⟩
    go_wp2_with fail
    refine (HAW.out w (Below.refl _ _)).mono ?_
    rintro _ w1 ⟨rfl, b1⟩
    go_wp2_with fail
    go_ret
    exact ⟨rfl, b1⟩
  have HQ0 := Lib.hid (newQ_ok hz)
  have HN := Lib.hid (fun W => new_yesD T V S hz W)
  have HR := Lib.hid (fun W => rnew_yes T V S hz W)
  have HD := Lib.hid (fun W => new_reader s (by omega) W)
  have HE := Lib.hid (fun W => ref_reader s (by omega) W)
  have hs16 : s.size ≤ 16777216 := by omega
  clear hz hT hV hS
  go_enter Tryd.func5, Tryd.ntmps5
  go_wp2_with fail
  refine (HN.out w).mono ?_
  rintro _ w1 ⟨rfl, h1⟩
  have b1 : Below w.heap.size w w1 := by rw [h1]; exact (Below.refl _ _).alloc (Nat.le_refl _) _
  have c1 : CodAt w1 w.heap.size (newQ T V S) := by rw [h1]; exact heap_alloc_new w _
  have l1 := c1.lt
  clear h1
  go_wp2_with fail
  refine (HR.out w1).mono ?_
  rintro _ w2 ⟨rfl, h2⟩
  have b2 : Below w1.heap.size w1 w2 := by rw [h2]; exact (Below.refl _ _).alloc (Nat.le_refl _) _
  have c2 : RCod w2 w1.heap.size (newQ T V S) := by rw [h2]; exact heap_alloc_new w1 _
  have l2 := c2.lt
  clear h2
  go_wp2_with fail
  refine (HD.out w2).mono ?_
  rintro _ w3 ⟨rfl, h3⟩
  have b3 : Below w2.heap.size w2 w3 := by rw [h3]; exact (Below.refl _ _).alloc (Nat.le_refl _) _
  have c3 : Rd w3 w2.heap.size s 0 0 := ⟨by rw [h3]; exact heap_alloc_new w2 _, by omega, by omega⟩
  have l3 := (Array.getElem?_eq_some_iff.1 c3.1).1
  clear h3
  go_wp2_with fail
  refine (HE.out w3).mono ?_
  rintro _ w4 ⟨rfl, h4⟩
  have b4 : Below w3.heap.size w3 w4 := by rw [h4]; exact (Below.refl _ _).alloc (Nat.le_refl _) _
  have c4 : RRd w4 w3.heap.size s 0 0 := ⟨by rw [h4]; exact heap_alloc_new w3 _, by omega, by omega⟩
  clear h4
  have B2 := b1.trans (b2.mono b1.size)
  have B3 := B2.trans (b3.mono B2.size)
  have B4 := B3.trans (b4.mono B3.size)
  have H0 : Hid (R14 w w.heap.size w1.heap.size w2.heap.size w3.heap.size s (newQ T V S) (0, 0) w4) := by
    refine ⟨B4, ?_, ?_, ?_, c4, HQ0.out, Nat.le_refl _, l1, l2, l3⟩
    · exact ((c1.below b2).below b3).below b4
    · exact ⟨(b4.block _ l3).trans c3.1, c3.2⟩
    · exact (c2.below b3).below b4
  obtain ⟨gc, hgc⟩ : ∃ g, g = w.heap.size := ⟨_, rfl⟩
  obtain ⟨gd, hgd⟩ : ∃ g, g = w1.heap.size := ⟨_, rfl⟩
  obtain ⟨gr, hgr⟩ : ∃ g, g = w2.heap.size := ⟨_, rfl⟩
  obtain ⟨gq, hgq⟩ : ∃ g, g = w3.heap.size := ⟨_, rfl⟩
  have H1 : Hid (R14 w gc gd gr gq s (newQ T V S) (0, 0) w4) := by rw [hgc, hgd, hgr, hgq]; exact H0
  rw [← hgd, ← hgr, ← hgq]
  subst hgc
  clear b1 c1 l1 b2 c2 l2 b3 c3 l3 b4 c4 B2 B3 B4 H0 HN HR HD HE HQ0 hgd hgr hgq
  go_wp2_with fail
  go_loopw [17] (fun iv wr => ∃ k : Nat, k ≤ 5000 ∧ iv = .int .i64 k ∧ ∃ q x, Hid (R14 w w.heap.size gd gr gq s q x wr)) (fun iv _ => 5000 - (intOf iv).toNat)
  case atStart => exact ⟨0, by omega, rfl, _, _, H1⟩
  case round =>
    obtain ⟨k, hk, rfl, q, x, HJ⟩ := hrel
    by_cases hkn : k < 5000
    · have i1 : (k : Int) < 5000 := by omega
      have HA := Lib.hid (read_anyD q HJ.out.ok w.heap.size gr s x.1 x.2 _ HJ.out.cod HJ.out.rd)
      unfold ReadP rdV at HA
      have hqok : CdOk (rdQ q s x.1 x.2) := rdQ_ok HJ.out.ok HJ.out.rd.2.1
      have HOK := Lib.hid hqok
      unfold rdQ at HOK HA
      have HB : Hid (∀ w', RRd w' gq s x.1 x.2 → RCod w' gd q → Calls Tryd.prog 21 #[.pointer (some ⟨gd, 0, none⟩), .pointer (some ⟨gq, 0, none⟩)] w' (RdEnd gq gd s q (rdX q s x.1 x.2) w')) := fun w' g1 g2 => rread_any q HJ.out.ok gq gd s x.1 x.2 w' g1 g2 (by have := HJ.out.n3; have := HJ.out.n4; omega)
      unfold RdEnd at HB
      obtain ⟨E, hE⟩ : ∃ E, E = (if (rdX q s x.1 x.2).2.2 = 0 then (rdX q s x.1 x.2).1 else ev0) := ⟨_, rfl⟩
      obtain ⟨q', hq'⟩ : ∃ E, E = (if (rdX q s x.1 x.2).2.2 = 0 then knowQ q (rdX q s x.1 x.2).1 else q) := ⟨_, rfl⟩
      rw [← hE, ← hq'] at HA HB
      rw [← hq'] at HOK
      obtain ⟨x', hx'⟩ : ∃ z, z = (rdX q s x.1 x.2).2 := ⟨_, rfl⟩
      rw [← hx'] at HA HB
      clear hE hq' hx' hqok
      go_wp2_with fail
      refine HA.out.mono ?_
      rintro _ u1 ⟨rfl, h1, h2, h3⟩
      have HH := Lib.hid (HJ.out.one h1 h2 h3)
      clear h1 h2 h3 HA
      unfold evV
      go_wp2_with fail
      obtain ⟨u2, hu2⟩ : ∃ W, u1.alloc (.cells (evC E) 46) = W := ⟨_, rfl⟩
      have hu2' : u1.alloc (.cells #[.int .u8 E.kd, .int .i64 E.th, .int .i64 E.tx, .int .i64 E.pl, .int .i64 E.v, .int .i64 E.x, .int .u8 E.why] 46) = u2 := hu2
      rw [hu2']
      have b2 : Below u1.heap.size u1 u2 := by rw [← hu2]; exact (Below.refl _ _).alloc (Nat.le_refl _) _
      have E2 : EvO u2 u1.heap.size E := by rw [← hu2]; exact heap_alloc_new u1 _
      have HH2 := Lib.hid (HH.out.below b2)
      clear hu2 hu2' HH
      refine (HB.out u2 HH2.out.rrd HH2.out.rcod).mono ?_
      rintro _ u3 ⟨rfl, h1, h2, h3⟩
      have E3 : EvO u3 u1.heap.size E := E2.same (h3.block _ E2.lt (by intro h; have := HH2.out.rrd.1; rw [← h] at this; exact absurd (this.symm.trans E2) (by simp)) (by intro h; have := HH2.out.rcod; rw [← Option.some.inj h] at this; exact absurd (this.symm.trans E2) (by simp)))
      have HJ3 := Lib.hid (HH2.out.two h1 h2 HOK.out h3)
      clear h1 h2 h3 HB b2 E2 HH2
      unfold evV
      go_wp2_with fail
      obtain ⟨u4, hu4⟩ : ∃ W, u3.alloc (.cells (evC E) 46) = W := ⟨_, rfl⟩
      have hu4' : u3.alloc (.cells #[.int .u8 E.kd, .int .i64 E.th, .int .i64 E.tx, .int .i64 E.pl, .int .i64 E.v, .int .i64 E.x, .int .u8 E.why] 46) = u4 := hu4
      rw [hu4']
      have b4 : Below u3.heap.size u3 u4 := by rw [← hu4]; exact (Below.refl _ _).alloc (Nat.le_refl _) _
      have E4 := Lib.hid (show EvO u4 u3.heap.size E by rw [← hu4]; exact heap_alloc_new u3 _)
      have E5 := Lib.hid (E3.below b4)
      have HJ4 := Lib.hid (HJ3.out.below b4)
      clear hu4 hu4' b4 E3 HJ3
      obtain ⟨er, her⟩ : ∃ e, e = x'.2 := ⟨_, rfl⟩
      rw [← her]
      by_cases hw : er = 0
      · have HWa := Lib.hid (wrong_no gr s x'.1 u4 (by have h := HJ4.out.rd; rw [← her, hw] at h; exact h))
        have HWb := Lib.hid (rref_wrong_no gq s x'.1 u4 (by have h := HJ4.out.rrd; rw [← her, hw] at h; exact h))
        have q9 : (er != 0) = false := by simp [hw]
        clear her hw
        refine HWa.out.mono ?_
        rintro _ _ ⟨rfl, rfl⟩
        go_wp2_with fail
        refine HWb.out.mono ?_
        rintro _ _ ⟨rfl, rfl⟩
        go_wp2_with fail
        refine rgDr rfl _ (by simp) u4 gr gq u1.heap.size u3.heap.size E er 0 0 s x'.1 x'.2 E5.out E4.out HJ4.out.rd HJ4.out.rrd rfl rfl rfl rfl rfl rfl rfl rfl rfl rfl ?_
        intro u5 b5
        simp only [putAll, List.setIfInBounds_toArray, List.set_cons_succ, List.set_cons_zero]
        have HJ5 := Lib.hid (HJ4.out.below b5)
        clear b5 HWa HWb HJ4 E4 E5
        go_wp2_with fail
        refine ⟨?_, ?measure⟩
        · exact ⟨k + 1, by omega, by go_num, q', x', HJ5⟩
        case measure => simp [intOf]; omega
      · have HWa := Lib.hid (wrong_yes gr s x'.1 x'.2 (her ▸ hw) u4 HJ4.out.rd)
        rw [← her] at HWa
        have HWb : Hid (∀ n, Calls Tryd.prog 23 #[.pointer (some ⟨gq, 0, none⟩)] (u4.drewN n) fun e w' => e = .returned (.tuple #[.int .i64 x'.1, .int .i64 er]) ∧ ∃ n2, w' = (u4.drewN n).drewN n2) := fun n => by
          rw [her]
          exact rref_wrong_yes gq s x'.1 x'.2 (her ▸ hw) (u4.drewN n) HJ4.out.rrd
        have q9 : (er != 0) = true := bne_iff_ne.2 hw
        clear her hw
        refine HWa.out.mono ?_
        rintro _ _ ⟨rfl, n1, rfl⟩
        go_wp2_with fail
        refine (HWb.out n1).mono ?_
        rintro _ u6 ⟨rfl, n2, hu6⟩
        have b6 : Below u4.heap.size u4 u6 := by rw [hu6]; exact ⟨rfl, rfl, rfl, Nat.le_refl _, fun _ _ => rfl⟩
        have HJ6 := Lib.hid (HJ4.out.below b6)
        have E6 := Lib.hid (E4.out.below b6)
        have E7 := Lib.hid (E5.out.below b6)
        clear hu6 b6 HWa HWb HJ4 E4 E5
        go_wp2_with fail
        refine rgDr rfl _ (by simp) u6 gr gq u1.heap.size u3.heap.size E er (x'.1 : Int) er s x'.1 x'.2 E7.out E6.out HJ6.out.rd HJ6.out.rrd rfl rfl rfl rfl rfl rfl rfl rfl rfl rfl ?_
        intro u5 b5
        simp only [putAll, List.setIfInBounds_toArray, List.set_cons_succ, List.set_cons_zero]
        have HJ5 := Lib.hid (HJ6.out.below b5)
        clear b5 HJ6 E6 E7
        go_wp2_with fail
        refine (HAW.out u5 HJ5.out.bel).mono ?_
        rintro _ u7 ⟨rfl, b7⟩
        go_wp2_with fail
        go_ret
        exact ⟨rfl, HJ5.out.bel.trans (b7.mono HJ5.out.bel.size)⟩
    · obtain rfl : k = 5000 := by omega
      go_wp2_with fail
      refine (HAW.out _ HJ.out.bel).mono ?_
      rintro _ u1 ⟨rfl, b1⟩
      go_wp2_with fail
      go_ret
      exact ⟨rfl, HJ.out.bel.trans (b1.mono HJ.out.bel.size)⟩
end Go.Proofs.YtkfcglgikemefaaDoor
