/-
  FOR ShapeKept: the map of the attempts that are gone; its rows that draw their order and write (16, 23). Laid by gen/gen_oz.py. Conditions: as they stand.
-/
import Derived.Test.YtnkkakcnlcmikaaDoorOp
import Derived.Test.YtnkkakcnlcmikaaDoorOw
import Derived.WideKeyPair
import Derived.Maps.OwnOps
import Derived.Maps.Views
namespace Go.Proofs.YtnkkakcnlcmikaaDoor
set_option maxRecDepth 100000
open Go.RowKit Go.Deep Go.Maps
set_option linter.unusedVariables false
set_option linter.unusedSimpArgs false
theorem EvsAt.ownK {w : World} {base k c : Nat} {A : Option Addr} {L : List Ev} (h : w.ownsRow base 27 7 (.slice A k c) k (evsC L)) (hk : L.length = k) (hok : ∀ i, i < L.length → EvOk (nthE L i)) : EvsAt w w.heap.size A L ∧ k ≤ c ∧ (∀ ad, A = some ad → base ≤ ad.block) := by
  refine ⟨?_, ?_, fun ad e => by subst e; exact (h.lt _ rfl).1⟩
  · rcases h.2 with ⟨h1, h2⟩ | ⟨g, cap, cur, h1, h2, h3, h4, h5, h6, h7⟩
    · intro i hi
      omega
    · injection h1 with e1 e2 e3
      subst e1 e3
      intro i hi
      refine ⟨⟨g, 0, none⟩, rfl, (Array.getElem?_eq_some_iff.1 h3).1, ?_⟩
      have hc : ∀ j, j < 7 → w.cell? ⟨g, i * 7 + j, none⟩ = (evC (nthE L i))[j]? := fun j hj => by
        have e1 : ((⟨g, 0, none⟩ : Addr).add (i * 7 + j)) = ⟨g, i * 7 + j, none⟩ := by cases hq : i * 7 + j <;> simp [Addr.add]
        have e2 := evsC_at L i j hi hj
        obtain ⟨v, hv⟩ : ∃ v, (evC (nthE L i))[j]? = some v := by
          unfold evC
          match j, hj with
          | 0, _ | 1, _ | 2, _ | 3, _ | 4, _ | 5, _ | 6, _ => exact ⟨_, rfl⟩
        rw [hv] at e2 ⊢
        rw [← e1]
        exact h.cells (g := g) rfl _ _ e2
      have ea : ((⟨g, 0, none⟩ : Addr).add (i * 7)) = ⟨g, i * 7, none⟩ := by cases hq : i * 7 <;> simp [Addr.add]
      rw [ea]
      exact ⟨hc 0 (by decide), hc 1 (by decide), hc 2 (by decide), hc 3 (by decide), hc 4 (by decide), hc 5 (by decide), hc 6 (by decide), hok i hi⟩
  · rcases h.2 with ⟨h1, h2⟩ | ⟨g, cap, cur, h1, h2, h3, h4, h5, h6, h7⟩
    · omega
    · injection h1 with e1 e2 e3
      subst e3
      exact h4

theorem u_map2 : Tryd.prog.underlying 52 = some (.map 53 3) := by kernel_rfl
theorem u_arr2 : Tryd.prog.underlying 53 = some (.array 2 3) := by kernel_rfl
theorem u_int13 : Tryd.prog.underlying 3 = some (.int .i64) := by kernel_rfl
theorem ak2 : Go.WideMaps.ArrKey Tryd.prog 53 3 2 := ⟨u_arr2, by kernel_rfl, by kernel_rfl, by kernel_rfl⟩
theorem kd2 : Go.Maps.Keyed Tryd.prog 53 := Go.Maps.Keyed.of_law (Go.WideMaps.ArrKey.law ak2)
theorem wf_nat {n : Nat} (h : n ≤ 9000) : (Lit.int .i64 (n : Int)).wf = true := by
  simp [Lit.wf, IntKind.min, IntKind.max, IntKind.signed, IntKind.bits]
  omega
def kl2 (t n : Nat) : Lit := .string (keyBytes [.int .i64 (t : Int), .int .i64 (n : Int)])
theorem sz13 : ∃ m, Tryd.prog.types.size = m + 1 := by
  have h : decide (0 < Tryd.prog.types.size) = true := by kernel_rfl
  have := of_decide_eq_true h
  exact ⟨Tryd.prog.types.size - 1, by omega⟩
theorem key2 {t n : Nat} (ht : t ≤ 9000) (hn : n ≤ 9000) : keyOf Tryd.prog 53 (.agg #[.int .i64 (t : Int), .int .i64 (n : Int)]) = some (kl2 t n) := Go.WideMaps.keyOf_pair ak2 u_int13 sz13 (wf_nat ht) (wf_nat hn)
theorem kl2_inj {t n t' n' : Nat} (ht : t ≤ 9000) (hn : n ≤ 9000) (ht' : t' ≤ 9000) (hn' : n' ≤ 9000) (h : kl2 t n = kl2 t' n') : t = t' ∧ n = n' := by
  have h1 := key2 ht hn
  rw [h] at h1
  have h2 := kd2.inj h1 (key2 ht' hn')
  simp only [Value.agg.injEq, Array.mk.injEq, List.cons.injEq, Value.int.injEq] at h2
  omega
theorem zero_int (w : World) : (zeroValue 3).run Tryd.prog w = .ok (.int .i64 0) w := by kernel_rfl
/-- Block b is a map that holds 1 at those (t, n), and no more. -/
def GoneMap (w : World) (b i : Nat) (F : Nat → Nat → Bool) : Prop := ∃ D : DataW Unit, w.ownsMap Tryd.prog 53 (plainElem Tryd.prog 3) b i D ∧ IsMap D ∧ ∀ t n, t ≤ 9000 → n ≤ 9000 → D.atKey (kl2 t n) (.lit (.int .i64 0)) = .lit (.int .i64 (if F t n = true then 1 else 0))
theorem GoneMap.made (w : World) : GoneMap (w.alloc (.map #[] 0)) w.heap.size 0 (fun _ _ => false) := ⟨_, World.ownsMap_made w _ _ _, isMap_empty, fun _ _ _ _ => rfl⟩
theorem GoneMap.block {w w' : World} {b i : Nat} {F : Nat → Nat → Bool} (h : GoneMap w b i F) (hb : w'.heap[b]? = w.heap[b]?) : GoneMap w' b i F := by
  obtain ⟨D, ⟨es, clock, h1, h2⟩, h3⟩ := h
  exact ⟨D, ⟨es, clock, hb.trans h1, h2⟩, h3⟩
theorem GoneMap.lt {w : World} {b i : Nat} {F : Nat → Nat → Bool} (h : GoneMap w b i F) : b < w.heap.size := by
  obtain ⟨D, h1, _⟩ := h
  exact h1.lt
theorem GoneMap.congr {w : World} {b i j : Nat} {F F' : Nat → Nat → Bool} (h : GoneMap w b i F) (hij : i ≤ j) (hF : ∀ t n, F t n = F' t n) : GoneMap w b j F' := by
  obtain ⟨D, h1, h2, h3⟩ := h
  exact ⟨D, h1.mono hij, h2, fun t n ht hn => by rw [← hF]; exact h3 t n ht hn⟩
theorem GoneMap.look {w : World} {b i t n : Nat} {F : Nat → Nat → Bool} (h : GoneMap w b i F) (ht : t ≤ 9000) (hn : n ≤ 9000) : (Instr.lookup 52 (.map (some b)) (.agg #[.int .i64 (t : Int), .int .i64 (n : Int)]) false).run Tryd.prog w = .ok (.int .i64 (if F t n = true then 1 else 0)) w := by
  obtain ⟨D, h1, _, h3⟩ := h
  obtain ⟨c, hrun, hat, _⟩ := h1.lookup_int kd2 u_map2 u_int13 (zero_int w) (key2 ht hn)
  rw [h3 t n ht hn] at hat
  injection hat with e1
  injection e1 with _ e2
  rw [e2]
  exact hrun
theorem GoneMap.put {P : Program} {w : World} {b i t m : Nat} {F : Nat → Nat → Bool} (h : GoneMap w b i F) (hi : i ≤ 9000) (ht : t ≤ 9000) (hm : m ≤ 9000) {ops : Array Oper} {rest : List Oper} {o : Oper} {a : Act} {Q : Exit → Act → World → Prop} (hg : o.guard = none) (x y : Operand) (hop : o.op = Op.mapUpdate 52 x y (.const (.int .i64 1)))
    (hx : a.eval x = .map (some b)) (hy : a.eval y = .agg #[.int .i64 (t : Int), .int .i64 (m : Int)])
    (hK : ∀ w', GoneMap w' b (i + 1) (fun t' m' => F t' m' || (t' == t && m' == m)) → w.grownBy w' (some b) → wpList Tryd.prog ops Q rest (a.put o.dst undef) w') : wpList Tryd.prog ops Q (o :: rest) a w := by
  obtain ⟨D, h1, h2, h3⟩ := h
  refine wpList_mapUpdate_own w hg x y _ _ hop 53 3 kd2 u_map2 _ b i D hx h1 (by unfold maxLen; omega) _ _ (kl2 t m) hy rfl (key2 ht hm) (.lit (.int .i64 1)) [] (plainElem_int u_int13 (by decide)) fun w' r1 r2 => hK w' ⟨_, r1, h2.put _ _, fun t' m' ht' hm' => ?_⟩ r2
  by_cases e : t' = t ∧ m' = m
  · obtain ⟨rfl, rfl⟩ := e
    rw [atKey_put_same h2 (kd2.key (key2 ht hm))]
    simp
  · rw [atKey_put_other (fun hk => e (kl2_inj ht' hm' ht hm hk)), h3 t' m' ht' hm']
    have : (t' == t && m' == m) = false := by
      simp only [Bool.and_eq_false_iff, beq_eq_false_iff_ne]
      omega
    show _ = DataW.lit (Lit.int IntKind.i64 (if (F t' m' || (t' == t && m' == m)) = true then 1 else 0))
    rw [this, Bool.or_false]
section
variable {a : Act} {w : World} {K : Act → World → Prop} {Q : Exit → Act → World → Prop} {o : Oper}
theorem z_field1 (x : Nat) {g : Nat} (ho : o.op = .fieldAddr 27 (.tmp x) 1) (hx : a.tmps[x]?.getD undef = .pointer (some ⟨g, 0, none⟩)) (hK : K (a.put o.dst (.pointer (some ⟨g, 1, none⟩))) w) : Oper.wp Tryd.prog o a w K Q := by
  obtain ⟨dst, op, type, pos, after, guard⟩ := o
  have ho' : op = _ := ho
  subst ho'
  clear ho
  go_simp
  exact hK
theorem z_fieldT (x : Nat) {g : Nat} (ho : o.op = .fieldAddr 35 (.tmp x) 3) (hx : a.tmps[x]?.getD undef = .pointer (some ⟨g, 0, none⟩)) (hK : K (a.put o.dst (.pointer (some ⟨g, 3, none⟩))) w) : Oper.wp Tryd.prog o a w K Q := by
  obtain ⟨dst, op, type, pos, after, guard⟩ := o
  have ho' : op = _ := ho
  subst ho'
  clear ho
  go_simp
  exact hK
theorem z_index (x y : Nat) {p : Addr} {i n c : Nat} (hi : i < n) (ho : o.op = .indexAddr 51 (.tmp x) (.tmp y)) (hx : a.tmps[x]?.getD undef = .slice (some p) n c) (hy : a.tmps[y]?.getD undef = .int .i64 (i : Int)) (hK : K (a.put o.dst (.pointer (some (p.add i)))) w) : Oper.wp Tryd.prog o a w K Q := by
  obtain ⟨dst, op, type, pos, after, guard⟩ := o
  have ho' : op = _ := ho
  subst ho'
  clear ho
  have i1 : (0 : Int) ≤ (i : Int) := by omega
  have i2 : (i : Int) < (n : Int) := by omega
  go_simp
  exact hK
theorem z_indexE (x y : Nat) {p : Addr} {i n c : Nat} (hi : i < n) (ho : o.op = .indexAddr 33 (.tmp x) (.tmp y)) (hx : a.tmps[x]?.getD undef = .slice (some p) n c) (hy : a.tmps[y]?.getD undef = .int .i64 (i : Int)) (hK : K (a.put o.dst (.pointer (some (p.add (i * 7))))) w) : Oper.wp Tryd.prog o a w K Q := by
  obtain ⟨dst, op, type, pos, after, guard⟩ := o
  have ho' : op = _ := ho
  subst ho'
  clear ho
  have i1 : (0 : Int) ≤ (i : Int) := by omega
  have i2 : (i : Int) < (n : Int) := by omega
  go_simp
  exact hK
theorem z_loadE (x : Nat) {p : Addr} {e : Ev} (ho : o.op = .load 27 (.tmp x)) (hx : a.tmps[x]?.getD undef = .pointer (some p)) (hc : EvAt w p e) (hK : K (a.put o.dst (evV e)) w) : Oper.wp Tryd.prog o a w K Q := by
  obtain ⟨dst, op, type, pos, after, guard⟩ := o
  have ho' : op = _ := ho
  subst ho'
  clear ho
  obtain ⟨c0, c1, c2, c3, c4, c5, c6, _⟩ := hc
  unfold evV at hK
  go_simp
  exact hK
theorem z_build (x y : Nat) {n m : Int} (ho : o.op = .build 53 #[(0, .tmp x), (1, .tmp y)]) (hx : a.tmps[x]?.getD undef = .int .i64 n) (hy : a.tmps[y]?.getD undef = .int .i64 m) (hK : K (a.put o.dst (.agg #[.int .i64 n, .int .i64 m])) w) : Oper.wp Tryd.prog o a w K Q := by
  obtain ⟨dst, op, type, pos, after, guard⟩ := o
  have ho' : op = _ := ho
  subst ho'
  clear ho
  go_simp
  exact hK
end
def regK16_pv (gs gm ge i n t m : Nat) : Nat → Option Value
  | 0 => some (.map (some gm))
  | 1 => some (.pointer (some ⟨ge, 1, none⟩))
  | 2 => some (.int .i64 (t : Int))
  | 3 => some (.slice (some ⟨gs, 0, none⟩) n n)
  | 4 => some (.int .i64 (i : Int))
  | 5 => some (.pointer (some ((⟨gs, 0, none⟩ : Addr).add i)))
  | 6 => some (.int .i64 (m : Int))
  | 7 => some (.agg #[.int .i64 (t : Int), .int .i64 (m : Int)])
  | _ => none
noncomputable def regK16_ops : Array Oper := opsW Tryd.f8 16
def regK16_ds : List Nat := [63, 64, 65, 66, 67, 68, 69, 70]
set_option maxRecDepth 100000 in
set_option maxHeartbeats 4000000 in
theorem regK16 {id : Nat} {ops : Array Oper} (hops : ops = regK16_ops) (T0 : Array Value) (hsz : 71 ≤ T0.size) (W : World) (gs gm ge i n t m k : Nat) (F : Nat → Nat → Bool) (hi : i < n) (hk : k ≤ 9000) (ht : t ≤ 9000) (hm : m ≤ 9000) (hcT : W.cell? ⟨ge, 1, none⟩ = some (.int .i64 (t : Int))) (hcO : W.cell? ((⟨gs, 0, none⟩ : Addr).add i) = some (.int .i64 (m : Int))) (hM : GoneMap W gm k F)
    (h3 : T0[3]? = some (.slice (some ⟨gs, 0, none⟩) n n)) (h5 : T0[5]? = some (.map (some gm))) (h6 : T0[6]? = some (.int .i64 (i : Int))) (h7 : T0[7]? = some (.pointer (some ⟨ge, 0, none⟩))) {Q : Exit → Act → World → Prop}
    (hend : ∀ w : World, GoneMap w gm (k + 1) (fun t' m' => F t' m' || (t' == t && m' == m)) → W.grownBy w (some gm) → Q .normal ⟨putAll T0 regK16_ds [.map (some gm), .pointer (some ⟨ge, 1, none⟩), .int .i64 (t : Int), .slice (some ⟨gs, 0, none⟩) n n, .int .i64 (i : Int), .pointer (some ((⟨gs, 0, none⟩ : Addr).add i)), .int .i64 (m : Int), .agg #[.int .i64 (t : Int), .int .i64 (m : Int)]], []⟩ w) : (Code.region id ops true).wp Tryd.prog Q ⟨T0, []⟩ W := by
  subst hops
  have hos : regK16_ops.size = 9 := by kernel_rfl
  refine wp_region_st (fun don u w => w = W.drew ∧ ∀ j v, regK16_pv gs gm ge i n t m j = some v → don j = true → u j = v) regK16_ds W T0 (by decide) (fun x hx => ?_) (by kernel_rfl) (by kernel_rfl) (fun u => ⟨rfl, fun j v _ h => by simp at h⟩) ?_ ?_
  · have hall : (regK16_ds.all fun d => decide (d < 71)) = true := by decide
    have := List.all_eq_true.1 hall x hx
    simp only [decide_eq_true_eq] at this
    omega
  · intro j o ho hj8 don u a w hT hU hdi hdone hJ K hK
    obtain ⟨rfl, hpv⟩ := hJ
    have hwait : ∀ l, waitsV regK16_ops j l = true → don l = true := fun l hl => waitsO_of (P := fun l => don l = true) ho hdone hl
    have hval : ∀ l v, regK16_pv gs gm ge i n t m l = some v → waitsV regK16_ops j l = true → u l = v := fun l v hv hl => hpv l v hv (hwait l hl)
    have plain : ∀ v, regK16_pv gs gm ge i n t m j = some v → K (a.put o.dst v) W.drew := fun v hv => hK v _ ⟨rfl, fun l v' hl hd => by
      (try dsimp only at hd ⊢)
      by_cases e : l = j
      · subst e
        rw [if_pos rfl]
        rw [hv] at hl
        exact Option.some.inj hl
      · rw [if_neg e]
        rw [don_far e] at hd
        exact hpv l v' hl hd⟩
    have hU2 : ∀ l, l < 8 → ∀ v, u l = v → a.tmps[regK16_ds.getD l 0]?.getD undef = v := fun l hl v hv => by rw [hU l hl, hv]; rfl
    have hT0 : ∀ s v, s ∉ regK16_ds → T0[s]? = some v → a.tmps[s]?.getD undef = v := fun s v hs hv => by rw [hT s hs, hv]; rfl
    match j, hj8 with
    | 0, _ => exact v_move 5 (opAtW ho (by kernel_rfl)) (hT0 5 _ (by decide) h5) (plain _ rfl)
    | 1, _ => exact z_field1 7 (opAtW ho (by kernel_rfl)) (hT0 7 _ (by decide) h7) (plain _ rfl)
    | 2, _ => exact q_loadI 64 (opAtW ho (by kernel_rfl)) (hU2 1 (by decide) _ (hval 1 _ rfl (by kernel_rfl))) hcT (plain _ rfl)
    | 3, _ => exact v_move 3 (opAtW ho (by kernel_rfl)) (hT0 3 _ (by decide) h3) (plain _ rfl)
    | 4, _ => exact v_move 6 (opAtW ho (by kernel_rfl)) (hT0 6 _ (by decide) h6) (plain _ rfl)
    | 5, _ => exact z_index 66 67 hi (opAtW ho (by kernel_rfl)) (hU2 3 (by decide) _ (hval 3 _ rfl (by kernel_rfl))) (hU2 4 (by decide) _ (hval 4 _ rfl (by kernel_rfl))) (plain _ rfl)
    | 6, _ => exact q_loadI 68 (opAtW ho (by kernel_rfl)) (hU2 5 (by decide) _ (hval 5 _ rfl (by kernel_rfl))) hcO (plain _ rfl)
    | 7, _ => exact z_build 65 69 (opAtW ho (by kernel_rfl)) (hU2 2 (by decide) _ (hval 2 _ rfl (by kernel_rfl))) (hU2 6 (by decide) _ (hval 6 _ rfl (by kernel_rfl))) (plain _ rfl)
    | j + 8, h => exact absurd (show j + 8 < 8 from h) (by omega)
  · intro us w hu hJ
    obtain ⟨rfl, hpv⟩ := hJ
    match us, hu with
    | [u0, u1, u2, u3, u4, u5, u6, u7], _ =>
      obtain rfl : u0 = _ := hpv 0 _ rfl rfl
      obtain rfl : u1 = _ := hpv 1 _ rfl rfl
      obtain rfl : u2 = _ := hpv 2 _ rfl rfl
      obtain rfl : u3 = _ := hpv 3 _ rfl rfl
      obtain rfl : u4 = _ := hpv 4 _ rfl rfl
      obtain rfl : u5 = _ := hpv 5 _ rfl rfl
      obtain rfl : u6 = _ := hpv 6 _ rfl rfl
      obtain rfl : u7 = _ := hpv 7 _ rfl rfl
      obtain ⟨o1, k1⟩ : ∃ o, regK16_ops[8]? = some o := ⟨_, Array.getElem?_eq_getElem (by omega)⟩
      have t63 := putAll_at T0 regK16_ds [.map (some gm), .pointer (some ⟨ge, 1, none⟩), .int .i64 (t : Int), .slice (some ⟨gs, 0, none⟩) n n, .int .i64 (i : Int), .pointer (some ((⟨gs, 0, none⟩ : Addr).add i)), .int .i64 (m : Int), .agg #[.int .i64 (t : Int), .int .i64 (m : Int)]] 0 (by decide) rfl (by decide) (by show 63 < T0.size; omega)
      have t70 := putAll_at T0 regK16_ds [.map (some gm), .pointer (some ⟨ge, 1, none⟩), .int .i64 (t : Int), .slice (some ⟨gs, 0, none⟩) n n, .int .i64 (i : Int), .pointer (some ((⟨gs, 0, none⟩ : Addr).add i)), .int .i64 (m : Int), .agg #[.int .i64 (t : Int), .int .i64 (m : Int)]] 7 (by decide) rfl (by decide) (by show 70 < T0.size; omega)
      rw [show regK16_ds.length = 8 from rfl]
      have hl : regK16_ops.toList.drop 8 = [o1] := by
        have e := List.getElem?_eq_some_iff.1 (show regK16_ops.toList[8]? = some o1 by simpa using k1)
        obtain ⟨e1, e2⟩ := e
        rw [List.drop_eq_getElem_cons e1, e2, List.drop_eq_nil_of_le (by simp [hos])]
      rw [hl]
      have hMd : GoneMap W.drew gm k F := hM
      refine hMd.put (P := Tryd.prog) hk ht hm (guardW k1 (by kernel_rfl)) (.tmp 63) (.tmp 70) (opAtW k1 (by kernel_rfl)) (evalT (by rw [show (63 : Nat) = regK16_ds[0] from rfl, t63]; rfl)) (evalT (by rw [show (70 : Nat) = regK16_ds[7] from rfl, t70]; rfl)) fun w' r1 r2 => ?_
      rw [dstW k1 (x := none) (by kernel_rfl)]
      exact hend w' r1 ⟨r2.os, r2.tape, r2.output, r2.size, r2.block⟩
/-- 'xs = append(xs, e)' of a row that the call owns, in a row that draws its order. -/
structure J23 (pv : Nat → Option Value) (base k : Nat) (A : Option Addr) (c : Nat) (X : List Value) (e : Ev) (W : World) (don : Nat → Bool) (u : Nat → Value) (w : World) : Prop where
  b : Below base W w
  pv : ∀ j v, pv j = some v → don j = true → u j = v
  n1 : don 7 = false → don 8 = false
  nn : don 7 = true → don 8 = false → ∃ q, u 7 = .slice (some ⟨q, 0, none⟩) 1 1 ∧ w.heap[q]? = some (.cells (evC e) 27 (0, 0))
  own0 : don 8 = false → w.ownsRow base 27 7 (.slice A k c) k X
  own1 : don 8 = true → ∃ A' c', u 8 = .slice A' (k + 1) c' ∧ w.ownsRow base 27 7 (.slice A' (k + 1) c') (k + 1) (X ++ (evC e).toList)
section
variable {pv : Nat → Option Value} {base k c : Nat} {A : Option Addr} {X : List Value} {e : Ev} {W w : World} {don : Nat → Bool} {u : Nat → Value}
theorem J23.start (u : Nat → Value) (h : W.ownsRow base 27 7 (.slice A k c) k X) : J23 pv base k A c X e W (fun _ => false) u W.drew := ⟨(Below.refl _ _).drew, fun j v _ h => by simp at h, fun _ => rfl, fun h => by simp at h, fun _ => h, fun h => by simp at h⟩
theorem J23.plain (h : J23 pv base k A c X e W don u w) {i : Nat} (h7 : i ≠ 7) (h8 : i ≠ 8) {v : Value} (hv : pv i = some v) : J23 pv base k A c X e W (fun j => j == i || don j) (fun j => if j = i then v else u j) w := by
  refine ⟨h.b, fun j v' hj hd => ?_, ?_, ?_, ?_, ?_⟩
  · (try dsimp only at hd ⊢)
    by_cases e : j = i
    · subst e
      rw [if_pos rfl]
      rw [hv] at hj
      exact Option.some.inj hj
    · rw [if_neg e]
      rw [don_far e] at hd
      exact h.pv j v' hj hd
  all_goals
    (try dsimp only)
    (try rw [don_far (Ne.symm h7)])
    (try rw [don_far (Ne.symm h8)])
    (try rw [if_neg (Ne.symm h7)])
    (try rw [if_neg (Ne.symm h8)])
  · exact h.n1
  · exact h.nn
  · exact h.own0
  · exact h.own1
theorem J23.one (h : J23 pv base k A c X e W don u w) (hd : don 7 = false) (h7 : pv 7 = none) (hb : base ≤ w.heap.size) : J23 pv base k A c X e W (fun j => j == 7 || don j) (fun j => if j = 7 then .slice (some ⟨w.heap.size, 0, none⟩) 1 1 else u j) (w.alloc (.cells (evC e) 27)) := by
  have d8 := h.n1 hd
  refine ⟨h.b.alloc hb _, fun j v' hj hdj => ?_, fun h => by simp at h, fun _ _ => ⟨w.heap.size, by simp, World.alloc_heap_new w _⟩, fun _ => (h.own0 d8).alloc _, fun h => ?_⟩
  · have hji : j ≠ 7 := by rintro rfl; rw [h7] at hj; cases hj
    (try dsimp only at hdj ⊢)
    rw [if_neg hji]
    rw [don_far hji] at hdj
    exact h.pv j v' hj hdj
  · (try dsimp only at h)
    rw [don_far (by decide), d8] at h
    cases h
end
def regK23_pv (g8 gt i n k c ct : Nat) (A : Option Addr) (a0 : Addr) (e : Ev) : Nat → Option Value
  | 0 => some (.pointer (some ⟨g8, 3, none⟩))
  | 1 => some (.slice A k c)
  | 2 => some (.pointer (some ⟨gt, 3, none⟩))
  | 3 => some (.slice (some a0) n ct)
  | 4 => some (.int .i64 (i : Int))
  | 5 => some (.pointer (some (a0.add (i * 7))))
  | 6 => some (evV e)
  | _ => none
noncomputable def regK23_ops : Array Oper := opsW Tryd.f8 23
def regK23_ds : List Nat := [94, 95, 96, 97, 98, 99, 100, 101, 102]
set_option maxRecDepth 100000 in
set_option maxHeartbeats 4000000 in
theorem regK23 {id : Nat} {ops : Array Oper} (hops : ops = regK23_ops) (T0 : Array Value) (hsz : 104 ≤ T0.size) (W : World) (g8 gt i n k c ct : Nat) (A : Option Addr) (a0 : Addr) (e : Ev) (X : List Value) (hi : i < n) (hk : k ≤ 9000) (hg8 : g8 < W.heap.size) (hgt : gt < g8 + 1) (ha0 : a0.block < g8 + 1)
    (hc8 : W.cell? ⟨g8, 3, none⟩ = some (.slice A k c)) (hf8 : W.frozen? ⟨g8, 3, none⟩ = false) (hct : W.cell? ⟨gt, 3, none⟩ = some (.slice (some a0) n ct)) (hev : EvAt W (a0.add (i * 7)) e) (own : W.ownsRow (g8 + 1) 27 7 (.slice A k c) k X)
    (h1 : T0[1]? = some (.pointer (some ⟨gt, 0, none⟩))) (h8 : T0[8]? = some (.pointer (some ⟨g8, 0, none⟩))) (h9 : T0[9]? = some (.int .i64 (i : Int))) {Q : Exit → Act → World → Prop}
    (hend : ∀ (u0 u1 u2 u3 u4 u5 u6 u7 : Value) (A' : Option Addr) (c' : Nat) (w : World), Below (g8 + 1) W w → w.ownsRow (g8 + 1) 27 7 (.slice A' (k + 1) c') (k + 1) (X ++ (evC e).toList) → Q .normal ⟨(putAll T0 regK23_ds [u0, u1, u2, u3, u4, u5, u6, u7, .slice A' (k + 1) c']).setIfInBounds 103 (.pointer (some ⟨g8, 3, none⟩)), []⟩ (w.setCell ⟨g8, 3, none⟩ (.slice A' (k + 1) c'))) : (Code.region id ops true).wp Tryd.prog Q ⟨T0, []⟩ W := by
  subst hops
  have hos : regK23_ops.size = 11 := by kernel_rfl
  have hcell : ∀ w, Below (g8 + 1) W w → w.cell? ⟨g8, 3, none⟩ = some (.slice A k c) := fun w b => (b.cell (p := ⟨g8, 3, none⟩) (Nat.lt_succ_self _)).trans hc8
  have hfz : ∀ w, Below (g8 + 1) W w → w.frozen? ⟨g8, 3, none⟩ = false := fun w b => (b.frozen (p := ⟨g8, 3, none⟩) (Nat.lt_succ_self _)).trans hf8
  obtain ⟨ie, bt, hie, hz, hs1, hb1, hb2⟩ := i_evs
  refine wp_region_st (J23 (regK23_pv g8 gt i n k c ct A a0 e) (g8 + 1) k A c X e W) regK23_ds W T0 (by decide) (fun x hx => ?_) (by kernel_rfl) (by kernel_rfl) (fun u => J23.start u own) ?_ ?_
  · have hall : (regK23_ds.all fun d => decide (d < 104)) = true := by decide
    have := List.all_eq_true.1 hall x hx
    simp only [decide_eq_true_eq] at this
    omega
  · intro j o ho hj9 don u a w hT hU hdi hdone hJ K hK
    have hwait : ∀ l, waitsV regK23_ops j l = true → don l = true := fun l hl => waitsO_of (P := fun l => don l = true) ho hdone hl
    have hval : ∀ l v, regK23_pv g8 gt i n k c ct A a0 e l = some v → waitsV regK23_ops j l = true → u l = v := fun l v hv hl => hJ.pv l v hv (hwait l hl)
    have plain : ∀ v, j ≠ 7 → j ≠ 8 → regK23_pv g8 gt i n k c ct A a0 e j = some v → K (a.put o.dst v) w := fun v h7 h8 hv => hK v w (hJ.plain h7 h8 hv)
    have hU2 : ∀ l, l < 9 → ∀ v, u l = v → a.tmps[regK23_ds.getD l 0]?.getD undef = v := fun l hl v hv => by rw [hU l hl, hv]; rfl
    have hT0 : ∀ s v, s ∉ regK23_ds → T0[s]? = some v → a.tmps[s]?.getD undef = v := fun s v hs hv => by rw [hT s hs, hv]; rfl
    have hbs : g8 + 1 ≤ w.heap.size := Nat.le_trans hg8 hJ.b.size
    match j, hj9 with
    | 0, _ => exact z_fieldT 8 (opAtW ho (by kernel_rfl)) (hT0 8 _ (by decide) h8) (plain _ (by decide) (by decide) rfl)
    | 1, _ => exact q_loadSe 94 (opAtW ho (by kernel_rfl)) (hU2 0 (by decide) _ (hval 0 _ rfl (by kernel_rfl))) (hcell w hJ.b) (plain _ (by decide) (by decide) rfl)
    | 2, _ => exact z_fieldT 1 (opAtW ho (by kernel_rfl)) (hT0 1 _ (by decide) h1) (plain _ (by decide) (by decide) rfl)
    | 3, _ => exact q_loadSe 96 (opAtW ho (by kernel_rfl)) (hU2 2 (by decide) _ (hval 2 _ rfl (by kernel_rfl))) ((hJ.b.cell (p := ⟨gt, 3, none⟩) hgt).trans hct) (plain _ (by decide) (by decide) rfl)
    | 4, _ => exact v_move 9 (opAtW ho (by kernel_rfl)) (hT0 9 _ (by decide) h9) (plain _ (by decide) (by decide) rfl)
    | 5, _ => exact z_indexE 97 98 hi (opAtW ho (by kernel_rfl)) (hU2 3 (by decide) _ (hval 3 _ rfl (by kernel_rfl))) (hU2 4 (by decide) _ (hval 4 _ rfl (by kernel_rfl))) (plain _ (by decide) (by decide) rfl)
    | 6, _ => exact z_loadE 99 (opAtW ho (by kernel_rfl)) (hU2 5 (by decide) _ (hval 5 _ rfl (by kernel_rfl))) (hev.below hJ.b (by rw [add_blockO]; exact ha0)) (plain _ (by decide) (by decide) rfl)
    | 7, _ => exact q_lit1e 100 e (opAtW ho (by kernel_rfl)) (hU2 6 (by decide) _ (hval 6 _ rfl (by kernel_rfl))) (hK _ _ (hJ.one hdi rfl hbs))
    | 8, _ =>
      have d7 := hwait 7 (by kernel_rfl)
      obtain ⟨q, e1, e3⟩ := hJ.nn d7 hdi
      have own2 := hJ.own0 hdi
      refine append_genO (m := 1) (news := (evC e).toList) u_evs hie hz hs1 hb1 rfl (by decide) hb2 own2 hbs rfl (fun _ => ⟨⟨q, 0, none⟩, rfl, ?_⟩) (fun u hu => ?_) (by omega) (.tmp 95) (.tmp 101) (opAtW ho (by kernel_rfl)) (evalT (hU2 1 (by decide) _ (hval 1 _ rfl (by kernel_rfl)))) (evalT (hU2 7 (by decide) _ e1)) ?_
      · exact news_row e3
      · exact one_ev hu
      · intro A2 c2 w2 o2 hg2 hn2
        refine hK _ _ ⟨hJ.b.grown hg2 hbs (fun x hx => (own2.lt x hx).1), fun l v' hl hd => ?_, fun h => ?_, fun _ h => by simp at h, fun h => by simp at h, fun _ => ⟨A2, c2, by simp, o2⟩⟩
        · have hli : l ≠ 8 := by rintro rfl; cases hl
          (try dsimp only at hd ⊢)
          rw [if_neg hli]
          rw [don_far hli] at hd
          exact hJ.pv l v' hl hd
        · (try dsimp only at h)
          rw [don_far (by decide), d7] at h
          cases h
    | j + 9, h => exact absurd (show j + 9 < 9 from h) (by omega)
  · intro us w hu hJ
    match us, hu with
    | [u0, u1, u2, u3, u4, u5, u6, u7, u8], _ =>
      obtain ⟨A', c', e0, own'⟩ := hJ.own1 rfl
      have e1 : u8 = .slice A' (k + 1) c' := e0
      have hb := hJ.b
      have hcg := hcell w hb
      clear hJ e0
      subst e1
      obtain ⟨o1, k1⟩ : ∃ o, regK23_ops[9]? = some o := ⟨_, Array.getElem?_eq_getElem (by omega)⟩
      obtain ⟨o2, k2⟩ : ∃ o, regK23_ops[10]? = some o := ⟨_, Array.getElem?_eq_getElem (by omega)⟩
      rw [show regK23_ds.length = 9 from rfl]
      have hr := hend u0 u1 u2 u3 u4 u5 u6 u7 A' c' w hb own'
      obtain ⟨vv, hvv⟩ : ∃ v, v = Value.slice A' (k + 1) c' := ⟨_, rfl⟩
      rw [← hvv] at hr ⊢
      have t8 : (putAll T0 regK23_ds [u0, u1, u2, u3, u4, u5, u6, u7, vv])[8]? = some (.pointer (some ⟨g8, 0, none⟩)) := (putAll_far _ _ _ 8 (by decide)).trans h8
      have tl : (putAll T0 regK23_ds [u0, u1, u2, u3, u4, u5, u6, u7, vv])[102]? = some vv := putAll_at T0 regK23_ds [u0, u1, u2, u3, u4, u5, u6, u7, vv] 8 (by decide) rfl (by decide) (by show 102 < T0.size; omega)
      have hTs : (putAll T0 regK23_ds [u0, u1, u2, u3, u4, u5, u6, u7, vv]).size = T0.size := putAll_size _ _ _
      generalize putAll T0 regK23_ds [u0, u1, u2, u3, u4, u5, u6, u7, vv] = T1 at *
      refine wpListW k1 (guardW k1 (by kernel_rfl)) (z_fieldT 8 (opAtW k1 (by kernel_rfl)) (by show T1[8]?.getD undef = _; rw [t8]; rfl) ?_)
      rw [dstW k1 (x := some 103) (by kernel_rfl)]
      refine wpListW k2 (guardW k2 (by kernel_rfl)) (q_storeSe 103 102 (dstW k2 (by kernel_rfl)) (opAtW k2 (by kernel_rfl)) (by show (T1.setIfInBounds 103 _)[103]?.getD undef = _; rw [Array.getElem?_setIfInBounds_self_of_lt (by omega)]; rfl) (by show (T1.setIfInBounds 103 _)[102]?.getD undef = _; rw [Array.getElem?_setIfInBounds_ne (by decide), tl]; exact hvv) hcg (hfz w hb) ?_)
      rw [show regK23_ops.toList.drop (10 + 1) = [] from List.drop_eq_nil_of_le (by simp [hos]), wpList]
      rw [hvv] at hr
      exact hr
end Go.Proofs.YtnkkakcnlcmikaaDoor
