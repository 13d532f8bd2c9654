/-
  FOR DeltaBack (layer 14): its two rows that draw their order: two events compared; two writes, and two texts. Conditions: as they stand.
-/
import Derived.Test.YtcomhnenfdoklaaDoorDly
namespace Go.Proofs.YtcomhnenfdoklaaDoor
set_option maxRecDepth 100000
open Go.RowKit Go.Deep
set_option linter.unusedVariables false
set_option linter.unusedSimpArgs false
noncomputable def rgB25_ops : Array Oper := opsW Tryd.f6 25
def rgB25_ds : List Nat := [146, 147, 148, 149, 150, 151, 152, 153, 154, 155]
set_option maxRecDepth 100000 in
set_option maxHeartbeats 4000000 in
theorem rgB25 {id : Nat} {ops : Array Oper} (hops : ops = rgB25_ops) (T0 : Array Value) (hsz : 156 ≤ T0.size) (W : World) (gx i n ct : Nat) (a0 : Addr) (e : Ev) (hi : i < n) (hE : EvO W gx e) (hA : EvAt W (a0.add (i * 7)) e) (ha0 : a0.block < W.heap.size)
    (h25 : T0[25]? = some (.int .i64 0)) (h24 : T0[24]? = some (.pointer (some ⟨gx, 0, none⟩))) (h17 : T0[17]? = some (.slice (some a0) n ct)) (h23 : T0[23]? = some (.int .i64 (i : Int))) {Q : Exit → Act → World → Prop}
    (hend : ∀ (w : World), Below W.heap.size W w → Q .normal ⟨putAll T0 rgB25_ds [.int .i64 0, .bool false, .bool false, evV e, .slice (some a0) n ct, .int .i64 (i : Int), .pointer (some (a0.add (i * 7))), evV e, .bool false, .bool false], []⟩ w) : (Code.region id ops true).wp Tryd.prog Q ⟨T0, []⟩ W := by
  subst hops
  have hos : rgB25_ops.size = 10 := by kernel_rfl
  have hga : (List.range 10).all (fun i => match rgB25_ops[i]? with | some o => o.guard == none || o.guard == some (2, false) | none => false) = true := by kernel_rfl
  refine wp_region_valsJ (fun _ w => Below W.heap.size W w) [.int .i64 0, .bool false, .bool false, evV e, .slice (some a0) n ct, .int .i64 (i : Int), .pointer (some (a0.add (i * 7))), evV e, .bool false, .bool false] rgB25_ds W T0 rfl (by decide) (fun x hx => ?_) (by kernel_rfl) (by kernel_rfl) (fun i o j want ho hg => ?_) ((Below.refl _ _).drew) ?_ hend
  · have hall : (rgB25_ds.all fun d => decide (d < 156)) = true := by decide
    have := List.all_eq_true.1 hall x hx
    simp only [decide_eq_true_eq] at this
    omega
  · have hi : i < 10 := by rw [← hos]; exact (Array.getElem?_eq_some_iff.1 ho).1
    have h1 := List.all_eq_true.1 hga i (by simpa using hi)
    rw [ho] at h1
    simp only [hg, Bool.or_eq_true, beq_iff_eq] at h1
    rcases h1 with h1 | h1 <;> cases h1
    rfl
  · intro j o ho hj don a w hT hR hdi hb K hK
    have hT0 : ∀ t v, t ∉ rgB25_ds → T0[t]? = some v → a.tmps[t]?.getD undef = v := fun t v ht hv => by rw [hT t ht, hv]; rfl
    have hU : ∀ l, (reachT rgB25_ops 9 j).contains l = true → a.tmps[rgB25_ds.getD l 0]?.getD undef = ([.int .i64 0, .bool false, .bool false, evV e, .slice (some a0) n ct, .int .i64 (i : Int), .pointer (some (a0.add (i * 7))), evV e, .bool false, .bool false] : List Value).getD l undef := fun l hl => (hR l (by simpa using hl)).2
    match j, hj with
    | 0, _ => exact v_move 25 (opAtW ho (by kernel_rfl)) (hT0 25 _ (by decide) h25) (hK w hb)
    | 1, _ => exact b_neq0 146 (by simp) (opAtW ho (by kernel_rfl)) (hU 0 (by kernel_rfl)) (hK w hb)
    | 2, _ => exact v_move 147 (opAtW ho (by kernel_rfl)) (hU 1 (by kernel_rfl)) (hK w hb)
    | 3, _ => exact u_loadE 24 (opAtW ho (by kernel_rfl)) (hT0 24 _ (by decide) h24) ⟨rfl, hE.below hb⟩ (hK w hb)
    | 4, _ => exact v_move 17 (opAtW ho (by kernel_rfl)) (hT0 17 _ (by decide) h17) (hK w hb)
    | 5, _ => exact v_move 23 (opAtW ho (by kernel_rfl)) (hT0 23 _ (by decide) h23) (hK w hb)
    | 6, _ => exact b_indexE 150 151 hi (opAtW ho (by kernel_rfl)) (hU 4 (by kernel_rfl)) (hU 5 (by kernel_rfl)) (hK w hb)
    | 7, _ => exact b_loadE 152 (opAtW ho (by kernel_rfl)) (hU 6 (by kernel_rfl)) (hA.below hb (by rw [add_blockO]; exact ha0)) (hK w hb)
    | 8, _ => exact b_neqE 149 153 (opAtW ho (by kernel_rfl)) (hU 3 (by kernel_rfl)) (hU 7 (by kernel_rfl)) (hK w hb)
    | 9, _ => exact b_orF 148 154 (opAtW ho (by kernel_rfl)) (hU 2 (by kernel_rfl)) (hU 8 (by kernel_rfl)) (hK w hb)
    | j + 10, h => exact absurd (show j + 10 < 10 from h) (by omega)
/-- Two coders that know the same, two writers that are empty; one event that is written to both. -/
structure J31 (w0 : World) (gc gd gu gv g9 B : Nat) (q : Cd) (e : Ev) (don : Nat → Bool) (w : World) : Prop where
  bel : Below w0.heap.size w0 w
  ev : EvO w g9 e
  b : B ≤ w.heap.size
  order : don 14 = true → don 10 = true
  a0 : don 10 = false → CodAt w gc q ∧ Wr w B gu 100 []
  a1 : don 10 = true → Wr w B gu 100 (wrL q 100 [] e)
  b0 : don 14 = false → CodAt w gd q ∧ Obj w gv 84 #[.int .i64 100, .slice none 0 0]
  b1 : don 14 = true → ∃ B', Wr w B' gv 100 (wrL q 100 [] e)
section
variable {w0 w : World} {gc gd gu gv g9 B : Nat} {q : Cd} {e : Ev} {don : Nat → Bool}
theorem J31.plain (h : J31 w0 gc gd gu gv g9 B q e don w) {i : Nat} (h10 : i ≠ 10) (h14 : i ≠ 14) : J31 w0 gc gd gu gv g9 B q e (fun j => j == i || don j) w := by
  have e1 : (10 == i || don 10) = don 10 := by rw [beq_eq_false_iff_ne.2 (Ne.symm h10), Bool.false_or]
  have e2 : (14 == i || don 14) = don 14 := by rw [beq_eq_false_iff_ne.2 (Ne.symm h14), Bool.false_or]
  refine ⟨h.bel, h.ev, h.b, ?_, ?_, ?_, ?_, ?_⟩
  · show (14 == i || don 14) = true → (10 == i || don 10) = true
    rw [e1, e2]; exact h.order
  · show (10 == i || don 10) = false → _
    rw [e1]; exact h.a0
  · show (10 == i || don 10) = true → _
    rw [e1]; exact h.a1
  · show (14 == i || don 14) = false → _
    rw [e2]; exact h.b0
  · show (14 == i || don 14) = true → _
    rw [e2]; exact h.b1
theorem EvO.frt {w w' : World} {g9 B gw gc : Nat} {e : Ev} {q : Cd} {most : Int} {l : List UInt8} (h : EvO w g9 e) (hc : CodAt w gc q) (hw : Wr w B gw most l) (f : FrT B gw gc w w') : EvO w' g9 e := h.stays_write hc hw f
theorem J31.one (h : J31 w0 gc gd gu gv g9 B q e don w) (d10 : don 10 = false) (d14 : don 14 = false) (hg : gc ≠ gd) (hu : gu ≠ gv) (n1 : w0.heap.size ≤ gc) (n2 : w0.heap.size ≤ gu) (n3 : w0.heap.size ≤ B) {w' : World} (hw : Wr w' B gu 100 (wrL q 100 [] e)) (f : FrT B gu gc w w') : J31 w0 gc gd gu gv g9 B q e (fun j => j == 10 || don j) w' := by
  obtain ⟨c1, c2⟩ := h.a0 d10
  obtain ⟨c3, c4⟩ := h.b0 d14
  refine ⟨h.bel.trans (f.below n2 n1 n3 h.bel.size), h.ev.frt c1 c2 f, Nat.le_trans h.b f.size, fun _ => by simp, fun x => by simp at x, fun _ => hw, fun _ => ⟨?_, ?_⟩, fun x => ?_⟩
  · exact f.cells c3 (by decide) (c3.not_writer c2) (Ne.symm hg)
  · exact f.cells c4 (by decide) (Ne.symm hu) (Obj.unlike (w := w) (g := gv) (g' := gc) (t' := 78) c4 c1 (by decide))
  · have x : (14 == 10 || don 14) = true := x
    rw [d14] at x
    cases x
theorem J31.two (h : J31 w0 gc gd gu gv g9 B q e don w) (d10 : don 10 = true) (d14 : don 14 = false) (hu : gu ≠ gv) (n1 : w0.heap.size ≤ gd) (n2 : w0.heap.size ≤ gv) {w' : World} {B' : Nat} (hB : B' = w.heap.size) (hw : Wr w' B' gv 100 (wrL q 100 [] e)) (f : FrT B' gv gd w w') : J31 w0 gc gd gu gv g9 B q e (fun j => j == 14 || don j) w' := by
  obtain ⟨v, c2⟩ := h.a1 d10
  obtain ⟨c3, c4⟩ := h.b0 d14
  have wv : Wr w B' gv 100 [] := ⟨_, c4, World.ownsRow_nil _ _ _ _, by decide, by decide, by decide⟩
  refine ⟨h.bel.trans (f.below n2 n1 (by rw [hB]; exact h.bel.size) h.bel.size), h.ev.frt c3 wv f, Nat.le_trans h.b f.size, fun _ => by simp [d10], fun x => ?_, fun _ => ⟨v, c2.same ?_ fun r hr => ?_⟩, fun x => by simp at x, fun _ => ⟨B', hw⟩⟩
  · have x : (10 == 14 || don 10) = false := x
    rw [d10] at x
    cases x
  · exact f.block gu c2.1.lt hu (Obj.unlike (w := w) (g := gu) (g' := gd) (t' := 78) c2.1 c3 (by decide)) (.inl (by rw [hB]; exact c2.1.lt))
  · have hl := (c2.row_lt r hr).2
    exact f.block r hl (fun x => own_not c2 (g := gv) c4 (by decide) (by rw [← x]; exact hr.symm)) (fun x => own_not c2 (g := gd) c3 (by decide) (by rw [← x]; exact hr.symm)) (.inl (by rw [hB]; exact hl))
end
noncomputable def rgB31_ops : Array Oper := opsW Tryd.f6 31
def rgB31_ds : List Nat := [167, 168, 169, 170, 171, 172, 173, 174, 175, 176, 177, 178, 179, 180, 181, 182, 183, 184, 185, 186, 187, 188, 189, 190, 10]
def rgB31_vs (gc gd gu gv : Nat) (e : Ev) (E : Int) (s : ByteArray) : List Value := [.int .i64 0, .bool true, .bool true, .int .i64 0, .bool true, .bool true, .bool true, .pointer (some ⟨gc, 0, none⟩), .pointer (some ⟨gu, 0, none⟩), evV e, .int .i64 E, .pointer (some ⟨gd, 0, none⟩), .pointer (some ⟨gv, 0, none⟩), evV e, .int .i64 E, .bool true, .bool true, .bool true, .pointer (some ⟨gu, 0, none⟩), .string s, .pointer (some ⟨gv, 0, none⟩), .string s, .bool true, .bool true, .bool true]
set_option maxRecDepth 100000 in
set_option maxHeartbeats 4000000 in
theorem rgB31 {id : Nat} {ops : Array Oper} (hops : ops = rgB31_ops) (T0 : Array Value) (hsz : 191 ≤ T0.size) (w0 W : World) (hek : Ek w0) (gc gd gu gv g9 B : Nat) (q : Cd) (hq : CdOk q) (e : Ev) (ok' : EvOk e) (hJ0 : J31 w0 gc gd gu gv g9 B q e (fun _ => false) W.drew) (hg : gc ≠ gd) (hu : gu ≠ gv) (n1 : w0.heap.size ≤ gc) (n2 : w0.heap.size ≤ gu) (n3 : w0.heap.size ≤ B) (n4 : w0.heap.size ≤ gd) (n5 : w0.heap.size ≤ gv)
    (h27 : T0[27]? = some (.int .i64 0)) (h29 : T0[29]? = some (.int .i64 0)) (h11 : T0[11]? = some (.pointer (some ⟨gc, 0, none⟩))) (h26 : T0[26]? = some (.pointer (some ⟨gu, 0, none⟩))) (h9 : T0[9]? = some (.pointer (some ⟨g9, 0, none⟩))) (h13 : T0[13]? = some (.pointer (some ⟨gd, 0, none⟩))) (h28 : T0[28]? = some (.pointer (some ⟨gv, 0, none⟩))) {Q : Exit → Act → World → Prop}
    (hend : ∀ (w : World), Below w0.heap.size w0 w → Q .normal ⟨putAll T0 rgB31_ds (rgB31_vs gc gd gu gv e (wrE q 100 [] e) (bs (wrL q 100 [] e))), []⟩ w) : (Code.region id ops true).wp Tryd.prog Q ⟨T0, []⟩ W := by
  subst hops
  have hos : rgB31_ops.size = 25 := by kernel_rfl
  have hga : (List.range 25).all (fun i => match rgB31_ops[i]? with | some o => o.guard == none || o.guard == some (2, true) || o.guard == some (6, true) || o.guard == some (17, true) | none => false) = true := by kernel_rfl
  refine wp_region_valsJ (J31 w0 gc gd gu gv g9 B q e) (rgB31_vs gc gd gu gv e (wrE q 100 [] e) (bs (wrL q 100 [] e))) rgB31_ds W T0 rfl (by decide) (fun x hx => ?_) (by kernel_rfl) (by kernel_rfl) (fun i o j want ho hg => ?_) hJ0 ?_ (fun w h => hend w h.bel)
  · have hall : (rgB31_ds.all fun d => decide (d < 191)) = true := by decide
    have := List.all_eq_true.1 hall x hx
    simp only [decide_eq_true_eq] at this
    omega
  · have hi : i < 25 := by rw [← hos]; exact (Array.getElem?_eq_some_iff.1 ho).1
    have h1 := List.all_eq_true.1 hga i (by simpa using hi)
    rw [ho] at h1
    simp only [hg, Bool.or_eq_true, beq_iff_eq] at h1
    rcases h1 with ((h1 | h1) | h1) | h1 <;> cases h1 <;> rfl
  · intro j o ho hj don a w hT hR hdi hJ K hK
    have hT0 : ∀ t v, t ∉ rgB31_ds → T0[t]? = some v → a.tmps[t]?.getD undef = v := fun t v ht hv => by rw [hT t ht, hv]; rfl
    have hU : ∀ l, (reachT rgB31_ops 9 j).contains l = true → a.tmps[rgB31_ds.getD l 0]?.getD undef = (rgB31_vs gc gd gu gv e (wrE q 100 [] e) (bs (wrL q 100 [] e))).getD l undef := fun l hl => (hR l (by simpa using hl)).2
    have hD : ∀ l, (reachT rgB31_ops 9 j).contains l = true → don l = true := fun l hl => (hR l (by simpa using hl)).1
    have hp : ∀ h10 : j ≠ 10, ∀ h14 : j ≠ 14, J31 w0 gc gd gu gv g9 B q e (fun l => l == j || don l) w := fun h10 h14 => hJ.plain h10 h14
    match j, hj with
    | 0, _ => exact v_move 27 (opAtW ho (by kernel_rfl)) (hT0 27 _ (by decide) h27) (hK w (hp (by decide) (by decide)))
    | 1, _ => exact b_eql0 167 (by simp) (opAtW ho (by kernel_rfl)) (hU 0 (by kernel_rfl)) (hK w (hp (by decide) (by decide)))
    | 2, _ => exact v_move 168 (opAtW ho (by kernel_rfl)) (hU 1 (by kernel_rfl)) (hK w (hp (by decide) (by decide)))
    | 3, _ => exact v_move 29 (opAtW ho (by kernel_rfl)) (hT0 29 _ (by decide) h29) (hK w (hp (by decide) (by decide)))
    | 4, _ => exact b_eql0 170 (by simp) (opAtW ho (by kernel_rfl)) (hU 3 (by kernel_rfl)) (hK w (hp (by decide) (by decide)))
    | 5, _ => exact b_andT 169 171 (opAtW ho (by kernel_rfl)) (hU 2 (by kernel_rfl)) (hU 4 (by kernel_rfl)) (hK w (hp (by decide) (by decide)))
    | 6, _ => exact v_move 172 (opAtW ho (by kernel_rfl)) (hU 5 (by kernel_rfl)) (hK w (hp (by decide) (by decide)))
    | 7, _ => exact v_move 11 (opAtW ho (by kernel_rfl)) (hT0 11 _ (by decide) h11) (hK w (hp (by decide) (by decide)))
    | 8, _ => exact v_move 26 (opAtW ho (by kernel_rfl)) (hT0 26 _ (by decide) h26) (hK w (hp (by decide) (by decide)))
    | 9, _ => exact u_loadE 9 (opAtW ho (by kernel_rfl)) (hT0 9 _ (by decide) h9) ⟨rfl, hJ.ev⟩ (hK w (hp (by decide) (by decide)))
    | 10, _ =>
      have x0 : a.tmps[174]?.getD undef = .pointer (some ⟨gc, 0, none⟩) := hU 7 (by kernel_rfl)
      have x1 : a.tmps[175]?.getD undef = .pointer (some ⟨gu, 0, none⟩) := hU 8 (by kernel_rfl)
      have x2 : a.tmps[176]?.getD undef = .agg #[.int .u8 e.kd, .int .i64 e.th, .int .i64 e.tx, .int .i64 e.pl, .int .i64 e.v, .int .i64 e.x, .int .u8 e.why] := hU 9 (by kernel_rfl)
      have d14 : don 14 = false := by
        cases hh : don 14 with
        | false => rfl
        | true => exact absurd (hJ.order hh) (by rw [hdi]; decide)
      obtain ⟨c1, c2⟩ := hJ.a0 hdi
      have HC := Lib.hid (write_anyD q hq e ok' B gc gu 100 [] w (hek.below hJ.bel) c1 c2 hJ.b)
      have HEV : evV e = .agg #[.int .u8 e.kd, .int .i64 e.th, .int .i64 e.tx, .int .i64 e.pl, .int .i64 e.v, .int .i64 e.x, .int .u8 e.why] := rfl
      rw [HEV] at HC
      obtain ⟨dst, op, type, pos, after, guard⟩ := o
      have ho' : op = .call { callee := .value (.func 16), args := #[.tmp 174, .tmp 175, .tmp 176], argTypes := #[24, 31, 41] } := opAtW ho (by kernel_rfl)
      subst ho'
      have HK := Lib.hid hK
      clear ho hT hU hT0 hR hD hp hK
      have hfun := Tryd.func16
      go_simp
      refine HC.out.mono ?_
      rintro _ w' ⟨rfl, k1, _, k3⟩
      exact HK.out w' (hJ.one hdi d14 hg hu n1 n2 n3 k1 k3)
    | 11, _ => exact v_move 13 (opAtW ho (by kernel_rfl)) (hT0 13 _ (by decide) h13) (hK w (hp (by decide) (by decide)))
    | 12, _ => exact v_move 28 (opAtW ho (by kernel_rfl)) (hT0 28 _ (by decide) h28) (hK w (hp (by decide) (by decide)))
    | 13, _ => exact u_loadE 9 (opAtW ho (by kernel_rfl)) (hT0 9 _ (by decide) h9) ⟨rfl, hJ.ev⟩ (hK w (hp (by decide) (by decide)))
    | 14, _ =>
      have x0 : a.tmps[178]?.getD undef = .pointer (some ⟨gd, 0, none⟩) := hU 11 (by kernel_rfl)
      have x1 : a.tmps[179]?.getD undef = .pointer (some ⟨gv, 0, none⟩) := hU 12 (by kernel_rfl)
      have x2 : a.tmps[180]?.getD undef = .agg #[.int .u8 e.kd, .int .i64 e.th, .int .i64 e.tx, .int .i64 e.pl, .int .i64 e.v, .int .i64 e.x, .int .u8 e.why] := hU 13 (by kernel_rfl)
      have d10 : don 10 = true := hD 10 (by kernel_rfl)
      obtain ⟨c3, c4⟩ := hJ.b0 hdi
      have HC := Lib.hid (write_anyD q hq e ok' w.heap.size gd gv 100 [] w (hek.below hJ.bel) c3 ⟨_, c4, World.ownsRow_nil _ _ _ _, by decide, by decide, by decide⟩ (Nat.le_refl _))
      have HEV : evV e = .agg #[.int .u8 e.kd, .int .i64 e.th, .int .i64 e.tx, .int .i64 e.pl, .int .i64 e.v, .int .i64 e.x, .int .u8 e.why] := rfl
      rw [HEV] at HC
      obtain ⟨dst, op, type, pos, after, guard⟩ := o
      have ho' : op = .call { callee := .value (.func 16), args := #[.tmp 178, .tmp 179, .tmp 180], argTypes := #[24, 31, 41] } := opAtW ho (by kernel_rfl)
      subst ho'
      have HK := Lib.hid hK
      clear ho hT hU hT0 hR hD hp hK
      have hfun := Tryd.func16
      go_simp
      refine HC.out.mono ?_
      rintro _ w' ⟨rfl, k1, _, k3⟩
      exact HK.out w' (hJ.two d10 hdi hu n4 n5 rfl k1 k3)
    | 15, _ => exact b_eqlX 177 181 (opAtW ho (by kernel_rfl)) (hU 10 (by kernel_rfl)) (hU 14 (by kernel_rfl)) (hK w (hp (by decide) (by decide)))
    | 16, _ => exact b_andT 173 182 (opAtW ho (by kernel_rfl)) (hU 6 (by kernel_rfl)) (hU 15 (by kernel_rfl)) (hK w (hp (by decide) (by decide)))
    | 17, _ => exact v_move 183 (opAtW ho (by kernel_rfl)) (hU 16 (by kernel_rfl)) (hK w (hp (by decide) (by decide)))
    | 18, _ => exact v_move 26 (opAtW ho (by kernel_rfl)) (hT0 26 _ (by decide) h26) (hK w (hp (by decide) (by decide)))
    | 19, _ =>
      have x0 : a.tmps[185]?.getD undef = .pointer (some ⟨gu, 0, none⟩) := hU 18 (by kernel_rfl)
      have HC := Lib.hid (text_w B gu 100 _ w (hJ.a1 (hD 10 (by kernel_rfl))) _ rfl)
      have HP := Lib.hid (hp (by decide) (by decide))
      obtain ⟨dst, op, type, pos, after, guard⟩ := o
      have ho' : op = .call { callee := .value (.func 18), args := #[.tmp 185], argTypes := #[31] } := opAtW ho (by kernel_rfl)
      subst ho'
      have HK := Lib.hid hK
      clear ho hT hU hT0 hR hD hp hK
      have hfun := Tryd.func18
      go_simp
      refine HC.out.mono ?_
      rintro _ w' ⟨rfl, rfl⟩
      exact HK.out w HP.out
    | 20, _ => exact v_move 28 (opAtW ho (by kernel_rfl)) (hT0 28 _ (by decide) h28) (hK w (hp (by decide) (by decide)))
    | 21, _ =>
      have x0 : a.tmps[187]?.getD undef = .pointer (some ⟨gv, 0, none⟩) := hU 20 (by kernel_rfl)
      obtain ⟨B2, hB2⟩ := hJ.b1 (hD 14 (by kernel_rfl))
      have HC := Lib.hid (text_w B2 gv 100 _ w hB2 _ rfl)
      have HP := Lib.hid (hp (by decide) (by decide))
      obtain ⟨dst, op, type, pos, after, guard⟩ := o
      have ho' : op = .call { callee := .value (.func 18), args := #[.tmp 187], argTypes := #[31] } := opAtW ho (by kernel_rfl)
      subst ho'
      have HK := Lib.hid hK
      clear ho hT hU hT0 hR hD hp hK
      have hfun := Tryd.func18
      go_simp
      refine HC.out.mono ?_
      rintro _ w' ⟨rfl, rfl⟩
      exact HK.out w HP.out
    | 22, _ => exact b_eqlS 186 188 (opAtW ho (by kernel_rfl)) (hU 19 (by kernel_rfl)) (hU 21 (by kernel_rfl)) (hK w (hp (by decide) (by decide)))
    | 23, _ => exact b_andT 184 189 (opAtW ho (by kernel_rfl)) (hU 17 (by kernel_rfl)) (hU 22 (by kernel_rfl)) (hK w (hp (by decide) (by decide)))
    | 24, _ => exact v_assign 190 (opAtW ho (by kernel_rfl)) (hU 23 (by kernel_rfl)) (hK w (hp (by decide) (by decide)))
    | j + 25, h => exact absurd (show j + 25 < 25 from h) (by omega)
end Go.Proofs.YtcomhnenfdoklaaDoor
