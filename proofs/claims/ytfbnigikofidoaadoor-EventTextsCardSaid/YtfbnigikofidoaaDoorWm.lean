/-
  PACKAGE event's Show: the drawn region of its loop: one word more. Conditions: as they stand.
-/
import Derived.Test.YtfbnigikofidoaaDoorWl
import Derived.OwnWalkIn
namespace Go.Proofs.YtfbnigikofidoaaDoor
set_option maxRecDepth 100000
open Go.RowKit Go.Shelf
set_option linter.unusedVariables false
section
variable {a : Act} {w : World} {K : Act → World → Prop} {Q : Exit → Act → World → Prop} {o : Oper}
theorem s_loadW (x : Nat) {q : Addr} {v : Value} (ho : o.op = .load 31 (.tmp x)) (hx : a.tmps[x]?.getD undef = .pointer (some q)) (hc : w.cell? q = some v) (hK : K (a.put o.dst v) w) : Oper.wp Tryd.prog o a w K Q := by
  obtain ⟨dst, op, type, pos, after, guard⟩ := o
  have ho' : op = _ := ho
  subst ho'
  clear ho
  go_simp
  exact hK
theorem s_fieldP (x : Nat) {b : Nat} (ho : o.op = .fieldAddr 43 (.tmp x) 0) (hx : a.tmps[x]?.getD undef = .pointer (some ⟨b, 0, none⟩)) (hK : K (a.put o.dst (.pointer (some ⟨b, 0, none⟩))) w) : Oper.wp Tryd.prog o a w K Q := by
  obtain ⟨dst, op, type, pos, after, guard⟩ := o
  have ho' : op = _ := ho
  subst ho'
  clear ho
  go_simp
  exact hK
theorem s_loadF (x : Nat) {q : Addr} {f : Nat} (ho : o.op = .load 41 (.tmp x)) (hx : a.tmps[x]?.getD undef = .pointer (some q)) (hc : w.cell? q = some (.func (.func f) #[] #[])) (hK : K (a.put o.dst (.func (.func f) #[] #[])) w) : Oper.wp Tryd.prog o a w K Q := by
  obtain ⟨dst, op, type, pos, after, guard⟩ := o
  have ho' : op = _ := ho
  subst ho'
  clear ho
  go_simp
  exact hK
theorem s_where (x y : Nat) {k g : Nat} (hk : k < 5) (ho : o.op = .call { callee := .value (.tmp x), args := #[.tmp y], argTypes := #[46] }) (hx : a.tmps[x]?.getD undef = .func (.func (fnP k)) #[] #[]) (hy : a.tmps[y]?.getD undef = .pointer (some ⟨g, 0, none⟩)) (hK : K (a.put o.dst (.pointer (some ⟨g, k, none⟩))) w) : Oper.wp Tryd.prog o a w K Q := by
  obtain ⟨dst, op, type, pos, after, guard⟩ := o
  have ho' : op = _ := ho
  subst ho'
  clear ho
  have hr := meth_any k hk g w
  have eg := fnP_enters hk
  obtain ⟨fp, hfp⟩ : ∃ fp, fp = fnP k := ⟨_, rfl⟩
  rw [← hfp] at hr eg hx
  clear hfp
  go_simp
  refine hr.mono ?_
  rintro e w' ⟨rfl, rfl⟩
  exact hK
theorem s_nil (x : Nat) {q : Addr} (ho : o.op = .nilCheck (.tmp x)) (hx : a.tmps[x]?.getD undef = .pointer (some q)) (hK : K (a.put o.dst (.pointer (some q))) w) : Oper.wp Tryd.prog o a w K Q := by
  obtain ⟨dst, op, type, pos, after, guard⟩ := o
  have ho' : op = _ := ho
  subst ho'
  clear ho
  go_simp
  exact hK
theorem s_load64 (x : Nat) {q : Addr} {n : Int} (ho : o.op = .load 2 (.tmp x)) (hx : a.tmps[x]?.getD undef = .pointer (some q)) (hc : w.cell? q = some (.int .i64 n)) (hK : K (a.put o.dst (.int .i64 n)) w) : Oper.wp Tryd.prog o a w K Q := by
  obtain ⟨dst, op, type, pos, after, guard⟩ := o
  have ho' : op = _ := ho
  subst ho'
  clear ho
  go_simp
  exact hK
theorem s_format (x : Nat) {n : Int} (h0 : -9223372036854775808 ≤ n) (h1 : n ≤ 9223372036854775807) (he : Ek w) (ho : o.op = .call { callee := .value (.func 14), args := #[.tmp x, .const (.int .i64 10)], argTypes := #[2, 3] }) (hx : a.tmps[x]?.getD undef = .int .i64 n) (hK : ∀ w', Below w.heap.size w w' → K (a.put o.dst (.string (bsW (Lib.itoa n)))) w') : Oper.wp Tryd.prog o a w K Q := by
  obtain ⟨dst, op, type, pos, after, guard⟩ := o
  have ho' : op = _ := ho
  subst ho'
  clear ho
  have hr := lib_format n h0 h1 w he.tab
  have h1 := Tryd.func14
  go_simp
  refine hr.mono ?_
  rintro e w' ⟨rfl, hb⟩
  exact hK w' hb
theorem s_sl1 (x : Nat) {p : ByteArray} (ho : o.op = .buildSlice 31 1 #[(0, .tmp x)]) (hx : a.tmps[x]?.getD undef = .string p) (hK : ∀ w', Below w.heap.size w w' → w.heap.size < w'.heap.size → w'.heap[w.heap.size]? = some (.cells #[.string p] 9 (0, 0)) → K (a.put o.dst (.slice (some ⟨w.heap.size, 0, none⟩) 1 1)) w') : Oper.wp Tryd.prog o a w K Q := by
  obtain ⟨dst, op, type, pos, after, guard⟩ := o
  have ho' : op = _ := ho
  subst ho'
  clear ho
  have h2 := hK (w.alloc (.cells #[.string p] 9)) ((Below.refl _ _).alloc (Nat.le_refl _) _) (by simp) (World.alloc_heap_new w _)
  clear hK
  go_simp
  exact h2
end
theorem drop_consW {ops : Array Oper} {k : Nat} {o : Oper} (ho : ops[k]? = some o) : ops.toList.drop k = o :: ops.toList.drop (k + 1) := by
  obtain ⟨h, h2⟩ := Array.getElem?_eq_some_iff.1 ho
  rw [List.drop_eq_getElem_cons (by simpa using h)]
  simp [h2]
/-- What each operation of the region leaves. -/
def S7 (v : Value) (x : Part) (b g5 : Nat) (y : Int) : Nat → Nat → Nat → Value → World → Prop
  | 0, _, _, u, _ => u = v
  | 1, _, _, u, _ => u = .pointer (some ⟨b, 0, none⟩)
  | 2, _, _, u, _ => u = .func (.func (fnP x.wh)) #[] #[]
  | 3, _, _, u, _ => u = .pointer (some ⟨g5, x.wh, none⟩)
  | 4, _, _, u, _ => u = .pointer (some ⟨g5, x.wh, none⟩)
  | 5, _, _, u, _ => u = .int .i64 y
  | 6, _, _, u, _ => u = .string (bsW (Lib.itoa y))
  | 7, lo, hi, u, w => ∃ g, u = .slice (some ⟨g, 0, none⟩) 1 1 ∧ lo ≤ g ∧ g < hi ∧ w.heap[g]? = some (.cells #[.string (bsW (Lib.itoa y))] 9 (0, 0))
  | _, _, _, _, _ => False
theorem S7.mono {v0 : Value} {p : Part} {b g5 : Nat} {y0 : Int} (i x y : Nat) (v : Value) (w w' : World) (hy : y ≤ w.heap.size) (bl : Below w.heap.size w w') (h : S7 v0 p b g5 y0 i x y v w) : S7 v0 p b g5 y0 i x y v w' := by
  match i, h with
  | 0, h | 1, h | 2, h | 3, h | 4, h | 5, h | 6, h => exact h
  | 7, h =>
    obtain ⟨g, h1, h2, h3, h4⟩ := h
    exact ⟨g, h1, h2, h3, (bl.block g (by omega)).trans h4⟩
  | i + 8, h => exact h.elim
/-- The element's type. -/
theorem plain_string_info : (Tryd.prog.info? 9).map (fun i => (i.zero, i.size, i.bytes)) = some (some (.string ⟨#[]⟩), 1, 16) := by kernel_rfl
theorem KT.grown {n₀ : Nat} {T : TypeId} {A C : World} {row : Option Nat} (h : A.grownBy C row) (hn : n₀ ≤ A.heap.size) (hr : ∀ r, row = some r → n₀ ≤ r ∧ ∃ cs t f, A.heap[r]? = some (.cells cs t f) ∧ t ≠ T) : KT n₀ T A C :=
  ⟨(Below.refl n₀ A).grown h hn (fun k e => (hr k e).1), fun i cs f hA => (h.block i (Array.getElem?_eq_some_iff.1 hA).1 (fun e => by
    obtain ⟨cs', t', f', h1, h2⟩ := (hr i e.symm).2
    have h5 := Option.some.inj (h1.symm.trans hA)
    injection h5 with _ h6
    exact h2 h6)).trans hA⟩
def isDefer : Op → Bool
  | .defer _ => true
  | _ => false
theorem box_belowW {W W' : World} {B : Nat} {t : TypeId} {v : Value} (h : _root_.Go.Boxed W B t v) (hb : Below W.heap.size W W') : _root_.Go.Boxed W' B t v := (hb.block _ h.lt).trans h
theorem own_belowR {W W' : World} {base : Nat} {e : TypeId} {size : Nat} {v : Value} {k : Nat} {xs : List Value} (h : W.ownsRow base e size v k xs) (hb : Below W.heap.size W W') : W'.ownsRow base e size v k xs := by
  refine h.kept (row := none) ⟨hb.os, hb.tape, hb.output, hb.size, fun i hi _ => hb.block i hi⟩ ?_
  rcases h.2 with ⟨rfl, _⟩ | ⟨g, cap, cur, rfl, _⟩
  · exact .inl rfl
  · exact .inr fun e' => by simp [Value.ownBlock] at e'
theorem keepsO_below {W W' : World} (hb : Below W.heap.size W W') : KeepsOthers W W' := ⟨hb.size, fun k o h _ => (hb.block k (Array.getElem?_eq_some_iff.1 h).1).trans h⟩
noncomputable def opsS7 : Array Oper := opsW Tryd.f5 7
def dsS7 : List Nat := [23, 24, 25, 26, 27, 28, 29, 30]
set_option maxRecDepth 100000 in
set_option maxHeartbeats 4000000 in
theorem regS7 {id : Nat} {ops : Array Oper} (hops : ops = opsS7) (l2 n : Nat) (T0 : Array Value) (hsz : 34 ≤ T0.size) (W : World) (n₀ g4 g5 b k : Nat) (v : Value) (xs : List Value) (x : Part) (c : Nat → Int) (h4 : T0[4]? = some (.pointer (some ⟨g4, 0, none⟩))) (h5 : T0[5]? = some (.pointer (some ⟨g5, 0, none⟩))) (h6 : T0[6]? = some (.pointer (some ⟨b, 0, none⟩)))
    (bx : _root_.Go.Boxed W g4 31 v) (hown : W.ownsRow n₀ 9 1 v k xs) (hn : n₀ ≤ W.heap.size) (hn4 : n₀ ≤ g4) (hk : k ≤ 10) (hp : W.heap[b]? = some (.cells (partC x).toArray 43 (0, 0))) (hg5 : W.heap[g5]? = some (.cells (numR c) 36 (0, 0))) (y0 : -9223372036854775808 ≤ c x.wh) (y1 : c x.wh ≤ 9223372036854775807) (he : Ek W) {Q : Exit → Act → World → Prop}
    (hend : ∀ (a' : Act) (w : World) (v' : Value), _root_.Go.Boxed w g4 31 v' → w.ownsRow n₀ 9 1 v' (k + 1) (xs ++ [.string (bsW (Lib.itoa (c x.wh)))]) → KT n₀ 43 W w → KeepsOthers W w → w.heap[g5]? = some (.cells (numR c) 36 (0, 0)) → Q .normal a' w) :
    (Code.region id ops true).wpIn (Fence.wide.inRound l2) n Tryd.prog Q ⟨T0, []⟩ W := by
  subst hops
  have hos : opsS7.size = 10 := by kernel_rfl
  have hpl := (Array.getElem?_eq_some_iff.1 hp).1
  have hgl := (Array.getElem?_eq_some_iff.1 hg5).1
  have hall0 : (opsS7.all fun o => !isDefer o.op) = true := by kernel_rfl
  have hd : ∀ (i : Nat) (o : Oper), opsS7[i]? = some o → ∀ d, o.op ≠ .defer d := fun i o h1 d e => by
    have h2 := Array.all_eq_true'.1 hall0 o (Array.mem_of_getElem? h1)
    rw [e] at h2
    cases h2
  refine wpIn_region_tail (S7 v x b g5 (c x.wh)) dsS7 W T0 (by decide) (fun x hx => ?_) (by kernel_rfl) (by kernel_rfl) (fun i x y v w w' hb hy b h => S7.mono i x y v w w' hy b h) ?_ ?_
  · have hall : (dsS7.all fun d => decide (d < 34)) = true := by decide
    have := List.all_eq_true.1 hall x hx
    simp only [decide_eq_true_eq] at this
    omega
  · intro i o ho hi a w hT hdep hb K hK
    have hw : ∀ j, waitsW opsS7 i j = true → ∃ u p q, a.tmps[dsS7.getD j 0]? = some u ∧ S7 v x b g5 (c x.wh) j p q u w := fun j hj => waitsW_of (P := fun j => ∃ u p q, a.tmps[dsS7.getD j 0]? = some u ∧ S7 v x b g5 (c x.wh) j p q u w) ho hdep hj
    have hT0 : ∀ t v, t ∉ dsS7 → T0[t]? = some v → a.tmps[t]?.getD undef = v := fun t v ht hv => by
      rw [hT t ht, hv]
      rfl
    match i, hi with
    | 0, _ => exact wpIn_of_wp (hd 0 o ho) (s_loadW 4 (opAtW ho (by kernel_rfl)) (hT0 4 _ (by decide) h4) (box_belowW bx hb).cell (hK _ _ (Below.refl _ _) rfl))
    | 1, _ => exact wpIn_of_wp (hd 1 o ho) (s_fieldP 6 (opAtW ho (by kernel_rfl)) (hT0 6 _ (by decide) h6) (hK _ _ (Below.refl _ _) rfl))
    | 2, _ =>
      obtain ⟨v0, _, _, e0, s0⟩ := hw 1 (by kernel_rfl)
      have c0 : w.cell? ⟨b, 0, none⟩ = some (.func (.func (fnP x.wh)) #[] #[]) := (cell_of_row w b 0 _ _ _ ((hb.block b hpl).trans hp)).trans rfl
      exact wpIn_of_wp (hd 2 o ho) (s_loadF 24 (opAtW ho (by kernel_rfl)) (hV e0 s0) c0 (hK _ _ (Below.refl _ _) rfl))
    | 3, _ =>
      obtain ⟨v0, _, _, e0, s0⟩ := hw 2 (by kernel_rfl)
      exact wpIn_of_wp (hd 3 o ho) (s_where 25 5 x.wh.isLt (opAtW ho (by kernel_rfl)) (hV e0 s0) (hT0 5 _ (by decide) h5) (hK _ _ (Below.refl _ _) rfl))
    | 4, _ =>
      obtain ⟨v0, _, _, e0, s0⟩ := hw 3 (by kernel_rfl)
      exact wpIn_of_wp (hd 4 o ho) (s_nil 26 (opAtW ho (by kernel_rfl)) (hV e0 s0) (hK _ _ (Below.refl _ _) rfl))
    | 5, _ =>
      obtain ⟨v0, _, _, e0, s0⟩ := hw 4 (by kernel_rfl)
      have c0 : w.cell? ⟨g5, x.wh, none⟩ = some (.int .i64 (c x.wh)) := (cell_of_row w g5 _ _ _ _ ((hb.block g5 hgl).trans hg5)).trans (numR_get c x.wh.isLt)
      exact wpIn_of_wp (hd 5 o ho) (s_load64 27 (opAtW ho (by kernel_rfl)) (hV e0 s0) c0 (hK _ _ (Below.refl _ _) rfl))
    | 6, _ =>
      obtain ⟨v0, _, _, e0, s0⟩ := hw 5 (by kernel_rfl)
      exact wpIn_of_wp (hd 6 o ho) (s_format 28 y0 y1 (he.below hb) (opAtW ho (by kernel_rfl)) (hV e0 s0) (fun w' b => hK _ w' b rfl))
    | 7, _ =>
      obtain ⟨v0, _, _, e0, s0⟩ := hw 6 (by kernel_rfl)
      exact wpIn_of_wp (hd 7 o ho) (s_sl1 29 (opAtW ho (by kernel_rfl)) (hV e0 s0) (fun w' b hl hh => hK _ w' b ⟨_, rfl, Nat.le_refl _, hl, hh⟩))
    | i + 8, h => exact absurd (show i + 8 < 8 from h) (by omega)
  · intro us lo hi w hu hb hS hdj
    have s0 : us.getD 0 undef = v := (hS 0 (by decide)).2.2.2
    obtain ⟨g, hg1, hg2, hg3, hg4⟩ := (hS 7 (by decide)).2.2.2
    have hbw := bx.lt
    have bw : _root_.Go.Boxed w g4 31 v := (hb.block _ bx.lt).trans bx
    have ow : w.ownsRow n₀ 9 1 v k xs := own_belowR hown hb
    have hgw := (hb.block g5 hgl).trans hg5
    have t23 : (putAll T0 dsS7 us)[23]? = some (us.getD 0 undef) := by
      have := putAll_at T0 dsS7 us 0 (by decide) hu.symm (by decide) (by show 23 < T0.size; omega)
      rw [List.getD_eq_getElem?_getD]
      have h42 : 0 < us.length := by rw [hu]; decide
      rw [List.getElem?_eq_getElem h42] at this ⊢
      exact this
    have t30 : (putAll T0 dsS7 us)[30]? = some (us.getD 7 undef) := by
      have := putAll_at T0 dsS7 us 7 (by decide) hu.symm (by decide) (by show 30 < T0.size; omega)
      rw [List.getD_eq_getElem?_getD]
      have h42 : 7 < us.length := by rw [hu]; decide
      rw [List.getElem?_eq_getElem h42] at this ⊢
      exact this
    have t4 : (putAll T0 dsS7 us)[4]? = some (.pointer (some ⟨g4, 0, none⟩)) := (putAll_far _ _ _ _ (by decide)).trans h4
    obtain ⟨o8, k8⟩ : ∃ o, opsS7[8]? = some o := ⟨_, Array.getElem?_eq_getElem (by omega)⟩
    obtain ⟨o9, k9⟩ : ∃ o, opsS7[9]? = some o := ⟨_, Array.getElem?_eq_getElem (by omega)⟩
    obtain ⟨i0, hi0, hz0, hz1, hz2⟩ := Go.info_parts plain_string_info
    have hTs : (putAll T0 dsS7 us).size = T0.size := putAll_size _ _ _
    rw [show dsS7.length = 8 from rfl, drop_consW k8]
    generalize putAll T0 dsS7 us = T1 at *
    have hnw : n₀ ≤ w.heap.size := Nat.le_trans hn hb.size
    refine wpListIn_append_own w (guardW k8 (by kernel_rfl)) (.tmp 23) (.tmp 30) 31 (opAtW k8 (by kernel_rfl)) n₀ 9 i0 (.string ⟨#[]⟩) 1 16 Tryd.underlying31 hi0 hz0 hz1 hz2 rfl (by decide) v k xs (by show T1.getD 23 undef = v; rw [Array.getD_eq_getD_getElem?, t23]; exact s0) ow ⟨g, 0, none⟩ 1 1 [.string (bsW (Lib.itoa (c x.wh)))] (by show T1.getD 30 undef = _; rw [Array.getD_eq_getD_getElem?, t30]; exact hg1) rfl (fun j u hj => ?_) (by simp [Value.oneCell']) (by unfold maxLen; omega) (by omega) hnw ?_
    · match j, hj with
      | 0, hj => exact (cell_of_row w g 0 _ _ _ hg4).trans hj
      | j + 1, hj => cases hj
    · intro v' w1 own1 hgr _
      obtain ⟨g', cap', rfl⟩ := ownsRow_succ own1
      have hvt : (31 : TypeId) ≠ 9 := by decide
      have b1 : _root_.Go.Boxed w1 g4 31 v := bw.kept hgr (bw.not_row hvt ow)
      have hrow : ∀ r, v.ownBlock = some r → n₀ ≤ r ∧ ∃ cs, w.heap[r]? = some (.cells cs 9 (0, 0)) := fun r e => by
        rcases ow.2 with ⟨rfl, _⟩ | ⟨g2, cap, cur, rfl, hb2, hgb, _⟩
        · simp [Value.ownBlock] at e
        · obtain rfl : g2 = r := by simpa [Value.ownBlock] using e
          exact ⟨hb2, cur, hgb⟩
      rw [dstW k8 (x := some 31) (by kernel_rfl), drop_consW k9]
      have hlast : opsS7.toList.drop (9 + 1) = [] := List.drop_eq_nil_of_le (by simp [hos])
      refine wpListIn_plain (guardW k9 (by kernel_rfl)) fun K hK' => wpIn_of_wp (hd 9 o9 k9) (s_store 4 31 (opAtW k9 (by kernel_rfl)) (q := ⟨g4, 0, none⟩) (A := some ⟨g', 0, none⟩) (n := k + 1) (c := cap') ?_ ?_ b1.cell b1.frozen ?_)
      · show (T1.setIfInBounds 31 _)[4]?.getD undef = _
        rw [Array.getElem?_setIfInBounds_ne (by decide), t4]
        rfl
      · show (T1.setIfInBounds 31 _)[31]?.getD undef = _
        rw [Array.getElem?_setIfInBounds_self_of_lt (by omega)]
        rfl
      · refine hK' _ _ ?_
        rw [hlast, wpListIn]
        have own2 : (w1.setCell ⟨g4, 0, none⟩ (.slice (some ⟨g', 0, none⟩) (k + 1) cap')).ownsRow n₀ 9 1 (.slice (some ⟨g', 0, none⟩) (k + 1) cap') (k + 1) (xs ++ [.string (bsW (Lib.itoa (c x.wh)))]) := own1.kept (grownBy_setCell' w1 g4 _) (.inr (b1.not_row hvt own1).symm)
        refine hend _ _ _ (b1.set _) own2 ?_ ?_ ?_
        · exact ((KT.of_below hb hn).trans (KT.grown hgr hnw fun r e => ⟨(hrow r e).1, _, _, _, (hrow r e).2.choose_spec, by decide⟩)).trans (KT.set _ hn4 b1 (by decide))
        · exact ((keepsO_below hb).trans (KeepsOthers.of_grownBy hgr fun j ob ej hj => by
            obtain ⟨cs, hcs⟩ := (hrow j ej).2
            rw [hcs] at hj
            cases hj
            rfl)).trans (KeepsOthers.setCell _ _ _)
        · have hne : g5 ≠ g4 := by
            rintro rfl
            have h5 := Option.some.inj (hg5.symm.trans (show W.heap[g5]? = some (.cells #[v] 31 (0, 0)) from bx))
            injection h5 with _ h6
            exact absurd h6 (by decide)
          refine (heap_setCell_other _ ⟨g4, 0, none⟩ _ _ hne).trans ?_
          refine (hgr.block g5 (Array.getElem?_eq_some_iff.1 hgw).1 (fun e => ?_)).trans hgw
          obtain ⟨cs, hcs⟩ := (hrow g5 e.symm).2
          have h5 := Option.some.inj (hcs.symm.trans hgw)
          injection h5 with _ h6
          exact absurd h6 (by decide)
end Go.Proofs.YtfbnigikofidoaaDoor
