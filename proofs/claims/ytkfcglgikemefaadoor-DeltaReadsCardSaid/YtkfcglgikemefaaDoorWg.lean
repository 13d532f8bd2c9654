/-
  PACKAGE event's parts: THE DRAWN REGION that lays the array of all Kinds' lists: 42 operations in whatever order, then the store. Laid by gen/gen_wg.py. Conditions: as they stand.
-/
import Derived.Test.YtkfcglgikemefaaDoorWf
import Derived.Laws.Tables
namespace Go.Proofs.YtkfcglgikemefaaDoor
set_option maxRecDepth 100000
open Go.RowKit
set_option linter.unusedVariables false
noncomputable def regOpsW (n : Nat) : Code → Option (Array Oper)
  | .region id ops _ => if id == n then some ops else none
  | .seq a b => match regOpsW n a with | some x => some x | none => regOpsW n b
  | .cond _ a b => match regOpsW n a with | some x => some x | none => regOpsW n b
  | .block _ b => regOpsW n b
  | .loop b => regOpsW n b
  | .scope b => regOpsW n b
  | .rangeFunc _ _ a b => match regOpsW n a with | some x => some x | none => regOpsW n b
  | _ => none
noncomputable def opsW (f : Func) (n : Nat) : Array Oper := match f.body with
  | some c => (regOpsW n c).getD #[]
  | none => #[]
theorem opAtW {ops : Array Oper} {i : Nat} {o : Oper} {x : Op} (ho : ops[i]? = some o) (h : (ops[i]?).map Oper.op = some x) : o.op = x := by
  rw [ho] at h
  exact Option.some.inj h
theorem dstW {ops : Array Oper} {i : Nat} {o : Oper} {x : Option Tmp} (ho : ops[i]? = some o) (h : (ops[i]?).map Oper.dst = some x) : o.dst = x := by
  rw [ho] at h
  exact Option.some.inj h
theorem guardW {ops : Array Oper} {i : Nat} {o : Oper} (ho : ops[i]? = some o) (h : (ops[i]?).map (fun o => o.guard.isNone) = some true) : o.guard = none := by
  rw [ho] at h
  have := Option.some.inj h
  simpa using this
theorem wpListW {P : Program} {ops : Array Oper} {Q : Exit → Act → World → Prop} {k : Nat} {o : Oper} {a : Act} {w : World} (ho : ops[k]? = some o) (hg : o.guard = none) (h : Oper.wp P o a w (fun a' w' => wpList P ops Q (ops.toList.drop (k + 1)) a' w') Q) : wpList P ops Q (ops.toList.drop k) a w := by
  have hk : k < ops.size := (Array.getElem?_eq_some_iff.1 ho).1
  rw [wpList_at hk]
  unfold wpOp
  rw [ho]
  have hw : Region.wanted o (yielded ops a.tmps) = true := by simp [Region.wanted, hg]
  simp only [hw, if_true]
  exact .inl h
def waitsW (ops : Array Oper) (i j : Nat) : Bool := match ops[i]? with
  | some o => o.after.any fun e => Region.binds .any e && e.on == j
  | none => false
theorem waitsW_of {ops : Array Oper} {i j : Nat} {o : Oper} {P : Nat → Prop} (ho : ops[i]? = some o) (hd : ∀ e ∈ o.after.toList, Region.binds .any e = true → P e.on) (h : waitsW ops i j = true) : P j := by
  unfold waitsW at h
  rw [ho] at h
  obtain ⟨e, he, h6⟩ := Array.any_eq_true'.1 h
  simp only [Bool.and_eq_true, beq_iff_eq] at h6
  have := hd e (by simpa using he) h6.1
  rwa [h6.2] at this
inductive KDp where
  | val (p : Part)
  | sl (L : List Part)
  | agg
  | box
theorem SlP.slice {L : List Part} {v : Value} {w : World} (h : SlP L v w) : ∃ A n c, v = .slice A n c := by
  rcases h with ⟨_, h⟩ | ⟨g, h, _⟩ <;> exact ⟨_, _, _, h⟩
def AggP (V S : Int) (v : Value) (w : World) : Prop := ∃ s : Nat → Value, (∀ j, SlP (partsK j V S) (s j) w) ∧ v = .agg #[.slice none 0 0, s 1, s 2, s 3, s 4, s 5, s 6, s 7, s 8, s 9, s 10, s 11, s 12, s 13]
def SP (V S : Int) : KDp → Nat → Nat → Value → World → Prop
  | .val p, _, _, v, w => v = partV p
  | .sl L, _, _, v, w => SlP L v w
  | .agg, _, _, v, w => AggP V S v w
  | .box, lo, hi, v, w => ∃ g, v = .pointer (some ⟨g, 0, none⟩) ∧ lo ≤ g ∧ g < hi ∧ w.heap[g]? = some (.cells (Array.replicate 14 (.slice none 0 0)) 166 (0, 0))
theorem SP.mono {V S : Int} {k : KDp} {x y : Nat} {v : Value} {w w' : World} (hy : y ≤ w.heap.size) (b : Below w.heap.size w w') (h : SP V S k x y v w) : SP V S k x y v w' := by
  cases k with
  | val p => exact h
  | sl L => exact SlP.below h b
  | agg =>
    obtain ⟨s, h1, h2⟩ := h
    exact ⟨s, fun j => (h1 j).below b, h2⟩
  | box =>
    obtain ⟨g, h1, h2, h3, h4⟩ := h
    exact ⟨g, h1, h2, h3, (b.block g (by omega)).trans h4⟩
def tabP (V S : Int) : List KDp := [KDp.val ⟨0, 0, 5⟩, KDp.val ⟨2, 0, 1099511627776⟩, KDp.sl [⟨0, 0, 5⟩, ⟨2, 0, 1099511627776⟩], KDp.sl [⟨0, 0, 5⟩, ⟨2, 0, 1099511627776⟩], KDp.val ⟨1, 0, S - 1⟩, KDp.val ⟨2, 0, 1099511627776⟩, KDp.sl [⟨1, 0, S - 1⟩, ⟨2, 0, 1099511627776⟩], KDp.sl [⟨1, 0, S - 1⟩, ⟨2, 0, 1099511627776⟩], KDp.val ⟨1, 0, V - 1⟩, KDp.val ⟨3, -9223372036854775808, 9223372036854775807⟩, KDp.sl [⟨1, 0, V - 1⟩, ⟨3, -9223372036854775808, 9223372036854775807⟩], KDp.sl [⟨1, 0, V - 1⟩, ⟨3, -9223372036854775808, 9223372036854775807⟩], KDp.val ⟨1, 0, S - 1⟩, KDp.sl [⟨1, 0, S - 1⟩], KDp.sl [⟨1, 0, S - 1⟩], KDp.val ⟨2, 1, 1099511627776⟩, KDp.sl [⟨2, 1, 1099511627776⟩], KDp.sl [⟨2, 1, 1099511627776⟩], KDp.val ⟨1, 0, S - 1⟩, KDp.sl [⟨1, 0, S - 1⟩], KDp.sl [⟨1, 0, S - 1⟩], KDp.val ⟨2, 0, 1099511627776⟩, KDp.sl [⟨2, 0, 1099511627776⟩], KDp.sl [⟨2, 0, 1099511627776⟩], KDp.val ⟨1, 0, V - 1⟩, KDp.val ⟨3, -9223372036854775808, 9223372036854775807⟩, KDp.sl [⟨1, 0, V - 1⟩, ⟨3, -9223372036854775808, 9223372036854775807⟩], KDp.sl [⟨1, 0, V - 1⟩, ⟨3, -9223372036854775808, 9223372036854775807⟩], KDp.val ⟨1, 0, S - 1⟩, KDp.sl [⟨1, 0, S - 1⟩], KDp.sl [⟨1, 0, S - 1⟩], KDp.val ⟨4, 1, 6⟩, KDp.val ⟨1, 0, S - 1⟩, KDp.sl [⟨4, 1, 6⟩, ⟨1, 0, S - 1⟩], KDp.sl [⟨4, 1, 6⟩, ⟨1, 0, S - 1⟩], KDp.val ⟨1, 0, S - 1⟩, KDp.sl [⟨1, 0, S - 1⟩], KDp.sl [⟨1, 0, S - 1⟩], KDp.sl [], KDp.sl [], KDp.agg, KDp.box]
theorem hV {a : Act} {t : Nat} {v u : Value} (e : a.tmps[t]? = some v) (h : v = u) : a.tmps[t]?.getD undef = u := by rw [e, h]; rfl
theorem below_setRowW {B g : Nat} {w w' : World} (h : Below B w w') (hg : B ≤ g) (cs : Array Value) : Below B w (w'.setRow g cs) :=
  h.trans ⟨rfl, rfl, rfl, by simp, fun k hk => setRow_other _ _ _ _ (by omega)⟩
noncomputable def opsP : Array Oper := opsW Tryd.f92 7
def dsP : List Nat := [26, 27, 28, 29, 30, 31, 32, 33, 34, 35, 36, 37, 38, 39, 40, 41, 42, 43, 44, 45, 46, 47, 48, 49, 50, 51, 52, 53, 54, 55, 56, 57, 58, 59, 60, 61, 62, 63, 64, 65, 66, 12]
set_option maxRecDepth 100000 in
set_option maxHeartbeats 4000000 in
theorem regP {id : Nat} {ops : Array Oper} (hops : ops = opsP) (T0 : Array Value) (hsz : 80 ≤ T0.size) (W : World) (V S : Int) (b : Nat → Nat) (h5 : T0[5]? = some (.pointer (some ⟨b 5, 0, none⟩))) (h6 : T0[6]? = some (.pointer (some ⟨b 6, 0, none⟩))) (h7 : T0[7]? = some (.pointer (some ⟨b 7, 0, none⟩))) (h8 : T0[8]? = some (.pointer (some ⟨b 8, 0, none⟩))) (h9 : T0[9]? = some (.pointer (some ⟨b 9, 0, none⟩))) (h10 : T0[10]? = some (.pointer (some ⟨b 10, 0, none⟩))) (h11 : T0[11]? = some (.pointer (some ⟨b 11, 0, none⟩))) (p5 : PBox W (b 5) ⟨0, 0, 5⟩) (p6 : PBox W (b 6) ⟨2, 0, 1099511627776⟩) (p7 : PBox W (b 7) ⟨2, 1, 1099511627776⟩) (p8 : PBox W (b 8) ⟨1, 0, S - 1⟩) (p9 : PBox W (b 9) ⟨1, 0, V - 1⟩) (p10 : PBox W (b 10) ⟨3, -9223372036854775808, 9223372036854775807⟩) (p11 : PBox W (b 11) ⟨4, 1, 6⟩) {Q : Exit → Act → World → Prop}
    (hend : ∀ (us : List Value) (X : Value) (g : Nat) (s : Nat → Value) (w : World), us.length = 42 → Below W.heap.size W w → W.heap.size ≤ g → w.heap[g]? = some (.cells #[.slice none 0 0, s 1, s 2, s 3, s 4, s 5, s 6, s 7, s 8, s 9, s 10, s 11, s 12, s 13] 166 (0, 0)) → (∀ j, SlP (partsK j V S) (s j) w) → us.getD 41 undef = .pointer (some ⟨g, 0, none⟩) → Q .normal ⟨putAll T0 dsP us, []⟩ w) :
    (Code.region id ops true).wp Tryd.prog Q ⟨T0, []⟩ W := by
  subst hops
  have hos : opsP.size = 43 := by kernel_rfl
  refine wp_region_tail (fun i => SP V S ((tabP V S).getD i .box)) dsP W T0 (by decide) (fun x hx => ?_) (by kernel_rfl) (by kernel_rfl) (fun i x y v w w' hb hy b h => SP.mono hy b h) ?_ ?_
  · have hall : (dsP.all fun d => decide (d < 80)) = true := by decide
    have := List.all_eq_true.1 hall x hx
    simp only [decide_eq_true_eq] at this
    omega
  · intro i o ho hi a w hT hdep hb K hK
    have hw : ∀ j, waitsW opsP i j = true → ∃ v x y, a.tmps[dsP.getD j 0]? = some v ∧ SP V S ((tabP V S).getD j .box) x y v w := fun j hj => waitsW_of (P := fun j => ∃ v x y, a.tmps[dsP.getD j 0]? = some v ∧ SP V S ((tabP V S).getD j .box) x y v w) ho hdep hj
    have hT0 : ∀ t v, t ∉ dsP → T0[t]? = some v → a.tmps[t]?.getD undef = v := fun t v ht hv => by
      rw [hT t ht, hv]
      rfl
    match i, hi with
    | 0, _ => exact w_load 5 (b 5) (opAtW ho (by kernel_rfl)) (hT0 5 _ (by decide) (h5)) (p5.below hb) (hK _ _ (Below.refl _ _) rfl)
    | 1, _ => exact w_load 6 (b 6) (opAtW ho (by kernel_rfl)) (hT0 6 _ (by decide) (h6)) (p6.below hb) (hK _ _ (Below.refl _ _) rfl)
    | 2, _ =>
      obtain ⟨v0, _, _, e0, s0⟩ := hw 0 (by kernel_rfl)
      obtain ⟨v1, _, _, e1, s1⟩ := hw 1 (by kernel_rfl)
      exact w_sl2 26 27 (opAtW ho (by kernel_rfl)) (hV e0 s0) (hV e1 s1) (fun v w' hb' hs => hK v w' hb' hs)
    | 3, _ =>
      obtain ⟨v0, _, _, e0, s0⟩ := hw 2 (by kernel_rfl)
      exact w_row 28 (opAtW ho (by kernel_rfl)) (hV e0 rfl) s0 (hK _ _ (Below.refl _ _) s0)
    | 4, _ => exact w_load 8 (b 8) (opAtW ho (by kernel_rfl)) (hT0 8 _ (by decide) (h8)) (p8.below hb) (hK _ _ (Below.refl _ _) rfl)
    | 5, _ => exact w_load 6 (b 6) (opAtW ho (by kernel_rfl)) (hT0 6 _ (by decide) (h6)) (p6.below hb) (hK _ _ (Below.refl _ _) rfl)
    | 6, _ =>
      obtain ⟨v0, _, _, e0, s0⟩ := hw 4 (by kernel_rfl)
      obtain ⟨v1, _, _, e1, s1⟩ := hw 5 (by kernel_rfl)
      exact w_sl2 30 31 (opAtW ho (by kernel_rfl)) (hV e0 s0) (hV e1 s1) (fun v w' hb' hs => hK v w' hb' hs)
    | 7, _ =>
      obtain ⟨v0, _, _, e0, s0⟩ := hw 6 (by kernel_rfl)
      exact w_row 32 (opAtW ho (by kernel_rfl)) (hV e0 rfl) s0 (hK _ _ (Below.refl _ _) s0)
    | 8, _ => exact w_load 9 (b 9) (opAtW ho (by kernel_rfl)) (hT0 9 _ (by decide) (h9)) (p9.below hb) (hK _ _ (Below.refl _ _) rfl)
    | 9, _ => exact w_load 10 (b 10) (opAtW ho (by kernel_rfl)) (hT0 10 _ (by decide) (h10)) (p10.below hb) (hK _ _ (Below.refl _ _) rfl)
    | 10, _ =>
      obtain ⟨v0, _, _, e0, s0⟩ := hw 8 (by kernel_rfl)
      obtain ⟨v1, _, _, e1, s1⟩ := hw 9 (by kernel_rfl)
      exact w_sl2 34 35 (opAtW ho (by kernel_rfl)) (hV e0 s0) (hV e1 s1) (fun v w' hb' hs => hK v w' hb' hs)
    | 11, _ =>
      obtain ⟨v0, _, _, e0, s0⟩ := hw 10 (by kernel_rfl)
      exact w_row 36 (opAtW ho (by kernel_rfl)) (hV e0 rfl) s0 (hK _ _ (Below.refl _ _) s0)
    | 12, _ => exact w_load 8 (b 8) (opAtW ho (by kernel_rfl)) (hT0 8 _ (by decide) (h8)) (p8.below hb) (hK _ _ (Below.refl _ _) rfl)
    | 13, _ =>
      obtain ⟨v0, _, _, e0, s0⟩ := hw 12 (by kernel_rfl)
      exact w_sl1 38 (opAtW ho (by kernel_rfl)) (hV e0 s0) (fun v w' hb' hs => hK v w' hb' hs)
    | 14, _ =>
      obtain ⟨v0, _, _, e0, s0⟩ := hw 13 (by kernel_rfl)
      exact w_row 39 (opAtW ho (by kernel_rfl)) (hV e0 rfl) s0 (hK _ _ (Below.refl _ _) s0)
    | 15, _ => exact w_load 7 (b 7) (opAtW ho (by kernel_rfl)) (hT0 7 _ (by decide) (h7)) (p7.below hb) (hK _ _ (Below.refl _ _) rfl)
    | 16, _ =>
      obtain ⟨v0, _, _, e0, s0⟩ := hw 15 (by kernel_rfl)
      exact w_sl1 41 (opAtW ho (by kernel_rfl)) (hV e0 s0) (fun v w' hb' hs => hK v w' hb' hs)
    | 17, _ =>
      obtain ⟨v0, _, _, e0, s0⟩ := hw 16 (by kernel_rfl)
      exact w_row 42 (opAtW ho (by kernel_rfl)) (hV e0 rfl) s0 (hK _ _ (Below.refl _ _) s0)
    | 18, _ => exact w_load 8 (b 8) (opAtW ho (by kernel_rfl)) (hT0 8 _ (by decide) (h8)) (p8.below hb) (hK _ _ (Below.refl _ _) rfl)
    | 19, _ =>
      obtain ⟨v0, _, _, e0, s0⟩ := hw 18 (by kernel_rfl)
      exact w_sl1 44 (opAtW ho (by kernel_rfl)) (hV e0 s0) (fun v w' hb' hs => hK v w' hb' hs)
    | 20, _ =>
      obtain ⟨v0, _, _, e0, s0⟩ := hw 19 (by kernel_rfl)
      exact w_row 45 (opAtW ho (by kernel_rfl)) (hV e0 rfl) s0 (hK _ _ (Below.refl _ _) s0)
    | 21, _ => exact w_load 6 (b 6) (opAtW ho (by kernel_rfl)) (hT0 6 _ (by decide) (h6)) (p6.below hb) (hK _ _ (Below.refl _ _) rfl)
    | 22, _ =>
      obtain ⟨v0, _, _, e0, s0⟩ := hw 21 (by kernel_rfl)
      exact w_sl1 47 (opAtW ho (by kernel_rfl)) (hV e0 s0) (fun v w' hb' hs => hK v w' hb' hs)
    | 23, _ =>
      obtain ⟨v0, _, _, e0, s0⟩ := hw 22 (by kernel_rfl)
      exact w_row 48 (opAtW ho (by kernel_rfl)) (hV e0 rfl) s0 (hK _ _ (Below.refl _ _) s0)
    | 24, _ => exact w_load 9 (b 9) (opAtW ho (by kernel_rfl)) (hT0 9 _ (by decide) (h9)) (p9.below hb) (hK _ _ (Below.refl _ _) rfl)
    | 25, _ => exact w_load 10 (b 10) (opAtW ho (by kernel_rfl)) (hT0 10 _ (by decide) (h10)) (p10.below hb) (hK _ _ (Below.refl _ _) rfl)
    | 26, _ =>
      obtain ⟨v0, _, _, e0, s0⟩ := hw 24 (by kernel_rfl)
      obtain ⟨v1, _, _, e1, s1⟩ := hw 25 (by kernel_rfl)
      exact w_sl2 50 51 (opAtW ho (by kernel_rfl)) (hV e0 s0) (hV e1 s1) (fun v w' hb' hs => hK v w' hb' hs)
    | 27, _ =>
      obtain ⟨v0, _, _, e0, s0⟩ := hw 26 (by kernel_rfl)
      exact w_row 52 (opAtW ho (by kernel_rfl)) (hV e0 rfl) s0 (hK _ _ (Below.refl _ _) s0)
    | 28, _ => exact w_load 8 (b 8) (opAtW ho (by kernel_rfl)) (hT0 8 _ (by decide) (h8)) (p8.below hb) (hK _ _ (Below.refl _ _) rfl)
    | 29, _ =>
      obtain ⟨v0, _, _, e0, s0⟩ := hw 28 (by kernel_rfl)
      exact w_sl1 54 (opAtW ho (by kernel_rfl)) (hV e0 s0) (fun v w' hb' hs => hK v w' hb' hs)
    | 30, _ =>
      obtain ⟨v0, _, _, e0, s0⟩ := hw 29 (by kernel_rfl)
      exact w_row 55 (opAtW ho (by kernel_rfl)) (hV e0 rfl) s0 (hK _ _ (Below.refl _ _) s0)
    | 31, _ => exact w_load 11 (b 11) (opAtW ho (by kernel_rfl)) (hT0 11 _ (by decide) (h11)) (p11.below hb) (hK _ _ (Below.refl _ _) rfl)
    | 32, _ => exact w_load 8 (b 8) (opAtW ho (by kernel_rfl)) (hT0 8 _ (by decide) (h8)) (p8.below hb) (hK _ _ (Below.refl _ _) rfl)
    | 33, _ =>
      obtain ⟨v0, _, _, e0, s0⟩ := hw 31 (by kernel_rfl)
      obtain ⟨v1, _, _, e1, s1⟩ := hw 32 (by kernel_rfl)
      exact w_sl2 57 58 (opAtW ho (by kernel_rfl)) (hV e0 s0) (hV e1 s1) (fun v w' hb' hs => hK v w' hb' hs)
    | 34, _ =>
      obtain ⟨v0, _, _, e0, s0⟩ := hw 33 (by kernel_rfl)
      exact w_row 59 (opAtW ho (by kernel_rfl)) (hV e0 rfl) s0 (hK _ _ (Below.refl _ _) s0)
    | 35, _ => exact w_load 8 (b 8) (opAtW ho (by kernel_rfl)) (hT0 8 _ (by decide) (h8)) (p8.below hb) (hK _ _ (Below.refl _ _) rfl)
    | 36, _ =>
      obtain ⟨v0, _, _, e0, s0⟩ := hw 35 (by kernel_rfl)
      exact w_sl1 61 (opAtW ho (by kernel_rfl)) (hV e0 s0) (fun v w' hb' hs => hK v w' hb' hs)
    | 37, _ =>
      obtain ⟨v0, _, _, e0, s0⟩ := hw 36 (by kernel_rfl)
      exact w_row 62 (opAtW ho (by kernel_rfl)) (hV e0 rfl) s0 (hK _ _ (Below.refl _ _) s0)
    | 38, _ => exact w_row0 (opAtW ho (by kernel_rfl)) (hK _ _ (Below.refl _ _) (.inl ⟨rfl, rfl⟩))
    | 39, _ => exact w_row0 (opAtW ho (by kernel_rfl)) (hK _ _ (Below.refl _ _) (.inl ⟨rfl, rfl⟩))
    | 40, _ =>
      obtain ⟨v1, _, _, e1, s1⟩ := hw 3 (by kernel_rfl)
      obtain ⟨v2, _, _, e2, s2⟩ := hw 7 (by kernel_rfl)
      obtain ⟨v3, _, _, e3, s3⟩ := hw 11 (by kernel_rfl)
      obtain ⟨v4, _, _, e4, s4⟩ := hw 14 (by kernel_rfl)
      obtain ⟨v5, _, _, e5, s5⟩ := hw 17 (by kernel_rfl)
      obtain ⟨v6, _, _, e6, s6⟩ := hw 20 (by kernel_rfl)
      obtain ⟨v7, _, _, e7, s7⟩ := hw 23 (by kernel_rfl)
      obtain ⟨v8, _, _, e8, s8⟩ := hw 27 (by kernel_rfl)
      obtain ⟨v9, _, _, e9, s9⟩ := hw 30 (by kernel_rfl)
      obtain ⟨v10, _, _, e10, s10⟩ := hw 34 (by kernel_rfl)
      obtain ⟨v11, _, _, e11, s11⟩ := hw 37 (by kernel_rfl)
      obtain ⟨v12, _, _, e12, s12⟩ := hw 38 (by kernel_rfl)
      obtain ⟨v13, _, _, e13, s13⟩ := hw 39 (by kernel_rfl)
      have hs : ∀ j, SlP (partsK j V S) ((fun j => match j with | 1 => v1 | 2 => v2 | 3 => v3 | 4 => v4 | 5 => v5 | 6 => v6 | 7 => v7 | 8 => v8 | 9 => v9 | 10 => v10 | 11 => v11 | 12 => v12 | 13 => v13 | _ => .slice none 0 0 : Nat → Value) j) w := fun j => by
        match j with
        | 0 => exact .inl ⟨rfl, rfl⟩
        | 1 => exact s1
        | 2 => exact s2
        | 3 => exact s3
        | 4 => exact s4
        | 5 => exact s5
        | 6 => exact s6
        | 7 => exact s7
        | 8 => exact s8
        | 9 => exact s9
        | 10 => exact s10
        | 11 => exact s11
        | 12 => exact s12
        | 13 => exact s13
        | j + 14 => exact .inl ⟨rfl, rfl⟩
      have hsl : ∀ j, ∃ A n c, ((fun j => match j with | 1 => v1 | 2 => v2 | 3 => v3 | 4 => v4 | 5 => v5 | 6 => v6 | 7 => v7 | 8 => v8 | 9 => v9 | 10 => v10 | 11 => v11 | 12 => v12 | 13 => v13 | _ => .slice none 0 0 : Nat → Value) j) = .slice A n c := fun j => SlP.slice (hs j)
      exact w_build (v := fun j => match j with | 1 => v1 | 2 => v2 | 3 => v3 | 4 => v4 | 5 => v5 | 6 => v6 | 7 => v7 | 8 => v8 | 9 => v9 | 10 => v10 | 11 => v11 | 12 => v12 | 13 => v13 | _ => .slice none 0 0) (A := fun j => (hsl j).choose) (n := fun j => (hsl j).choose_spec.choose) (c := fun j => (hsl j).choose_spec.choose_spec.choose) (fun j => (hsl j).choose_spec.choose_spec.choose_spec) (opAtW ho (by kernel_rfl)) (hV e1 rfl) (hV e2 rfl) (hV e3 rfl) (hV e4 rfl) (hV e5 rfl) (hV e6 rfl) (hV e7 rfl) (hV e8 rfl) (hV e9 rfl) (hV e10 rfl) (hV e11 rfl) (hV e12 rfl) (hV e13 rfl) (hK _ _ (Below.refl _ _) ⟨_, hs, rfl⟩)
    | 41, _ => exact w_alloc (opAtW ho (by kernel_rfl)) (hK _ _ ((Below.refl _ _).alloc (Nat.le_refl _) _) ⟨_, rfl, Nat.le_refl _, by simp, World.alloc_heap_new _ _⟩)
    | i + 42, h => exact absurd (show i + 42 < 42 from h) (by omega)
  · intro us lo hi w hu hb hS hdj
    obtain ⟨s, hs1, hs2⟩ := (hS 40 (by decide)).2.2.2
    obtain ⟨g, hg1, hg2, hg3, hg4⟩ := (hS 41 (by decide)).2.2.2
    have t12 : (putAll T0 dsP us)[12]? = some (us.getD 41 undef) := by
      have := putAll_at T0 dsP us 41 (by decide) hu.symm (by decide) (by show 12 < T0.size; omega)
      rw [List.getD_eq_getElem?_getD]
      have h42 : 41 < us.length := by rw [hu]; decide
      rw [List.getElem?_eq_getElem h42] at this ⊢
      exact this
    have t66 : (putAll T0 dsP us)[66]? = some (us.getD 40 undef) := by
      have := putAll_at T0 dsP us 40 (by decide) hu.symm (by decide) (by show 66 < T0.size; omega)
      rw [List.getD_eq_getElem?_getD]
      have h42 : 40 < us.length := by rw [hu]; decide
      rw [List.getElem?_eq_getElem h42] at this ⊢
      exact this
    obtain ⟨o, k1⟩ : ∃ o, opsP[42]? = some o := ⟨_, Array.getElem?_eq_getElem (by omega)⟩
    have hsl : ∀ j, ∃ A n c, s j = .slice A n c := fun j => (hs1 j).slice
    rw [show dsP.length = 42 from rfl]
    refine wpListW k1 (guardW k1 (by kernel_rfl)) (wp_store_row 166 (.tmp 12) (.tmp 66) (opAtW k1 (by kernel_rfl)) g #[.slice none 0 0, s 1, s 2, s 3, s 4, s 5, s 6, s 7, s 8, s 9, s 10, s 11, s 12, s 13] ?_ ?_ 166 _ hg4 (by kernel_rfl) rfl ?_ ?_)
    · show (putAll T0 dsP us).getD 12 undef = _
      rw [Array.getD_eq_getD_getElem?, t12]
      exact hg1
    · show (putAll T0 dsP us).getD 66 undef = _
      rw [Array.getD_eq_getD_getElem?, t66]
      exact hs2
    · have ho1 : ∀ j, (s j).oneCell' = true := fun j => by
        obtain ⟨A, n, c, h⟩ := hsl j
        rw [h]
        rfl
      have ho0 : (Value.slice none 0 0).oneCell' = true := rfl
      simp [ho1, ho0]
    · rw [dstW k1 (x := none) (by kernel_rfl)]
      rw [show opsP.toList.drop (42 + 1) = [] from List.drop_eq_nil_of_le (by simp [hos]), wpList]
      refine hend us (us.getD 40 undef) g s _ hu (below_setRowW hb (Nat.le_trans (hS 41 (by decide)).1 hg2) _) (Nat.le_trans (hS 41 (by decide)).1 hg2) (setRow_heap _ _ _ _ _ _ hg4) (fun j => ?_) hg1
      rcases hs1 j with h | ⟨g2, h1, h2⟩
      · exact .inl h
      · refine .inr ⟨g2, h1, ?_⟩
        rw [setRow_other _ _ _ _ (by
          rintro rfl
          have h5 := Option.some.inj (h2.symm.trans hg4)
          injection h5 with _ h6
          exact absurd h6 (by decide))]
        exact h2
end Go.Proofs.YtkfcglgikemefaaDoor
