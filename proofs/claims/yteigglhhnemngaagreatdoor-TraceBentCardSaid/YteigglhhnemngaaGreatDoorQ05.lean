/-
  SEVERAL TEXTS IN ONE (a claim has sixty files at most): Wg, Wh, Wi, Rq: the head of each stands ahead of it. No condition but theirs.
-/
import Derived.Test.YteigglhhnemngaaGreatDoorQ04
import Derived.Laws.Tables
import Derived.Test.YteigglhhnemngaaGreatDoorRows
import Derived.Sort.QuietIn
namespace Go.Proofs.YteigglhhnemngaaGreatDoor
set_option maxRecDepth 100000
open Go.RowKit
set_option linter.unusedVariables false
noncomputable def regOpsW (n : Nat) : Code → Option (Array Oper)
  | .region id ops _ => if id == n then some ops else none
  | .seq a b => match regOpsW n a with | some x => some x | none => regOpsW n b
  | .cond _ a b => match regOpsW n a with | some x => some x | none => regOpsW n b
  | .block _ b => regOpsW n b
  | .loop b => regOpsW n b
  | .scope b => regOpsW n b
  | .rangeFunc _ _ a b => match regOpsW n a with | some x => some x | none => regOpsW n b
  | _ => none
noncomputable def opsW (f : Func) (n : Nat) : Array Oper := match f.body with
  | some c => (regOpsW n c).getD #[]
  | none => #[]
theorem opAtW {ops : Array Oper} {i : Nat} {o : Oper} {x : Op} (ho : ops[i]? = some o) (h : (ops[i]?).map Oper.op = some x) : o.op = x := by
  rw [ho] at h
  exact Option.some.inj h
theorem dstW {ops : Array Oper} {i : Nat} {o : Oper} {x : Option Tmp} (ho : ops[i]? = some o) (h : (ops[i]?).map Oper.dst = some x) : o.dst = x := by
  rw [ho] at h
  exact Option.some.inj h
theorem guardW {ops : Array Oper} {i : Nat} {o : Oper} (ho : ops[i]? = some o) (h : (ops[i]?).map (fun o => o.guard.isNone) = some true) : o.guard = none := by
  rw [ho] at h
  have := Option.some.inj h
  simpa using this
theorem wpListW {P : Program} {ops : Array Oper} {Q : Exit → Act → World → Prop} {k : Nat} {o : Oper} {a : Act} {w : World} (ho : ops[k]? = some o) (hg : o.guard = none) (h : Oper.wp P o a w (fun a' w' => wpList P ops Q (ops.toList.drop (k + 1)) a' w') Q) : wpList P ops Q (ops.toList.drop k) a w := by
  have hk : k < ops.size := (Array.getElem?_eq_some_iff.1 ho).1
  rw [wpList_at hk]
  unfold wpOp
  rw [ho]
  have hw : Region.wanted o (yielded ops a.tmps) = true := by simp [Region.wanted, hg]
  simp only [hw, if_true]
  exact .inl h
def waitsW (ops : Array Oper) (i j : Nat) : Bool := match ops[i]? with
  | some o => o.after.any fun e => Region.binds .any e && e.on == j
  | none => false
theorem waitsW_of {ops : Array Oper} {i j : Nat} {o : Oper} {P : Nat → Prop} (ho : ops[i]? = some o) (hd : ∀ e ∈ o.after.toList, Region.binds .any e = true → P e.on) (h : waitsW ops i j = true) : P j := by
  unfold waitsW at h
  rw [ho] at h
  obtain ⟨e, he, h6⟩ := Array.any_eq_true'.1 h
  simp only [Bool.and_eq_true, beq_iff_eq] at h6
  have := hd e (by simpa using he) h6.1
  rwa [h6.2] at this
inductive KDp where
  | val (p : Part)
  | sl (L : List Part)
  | agg
  | box
theorem SlP.slice {L : List Part} {v : Value} {w : World} (h : SlP L v w) : ∃ A n c, v = .slice A n c := by
  rcases h with ⟨_, h⟩ | ⟨g, h, _⟩ <;> exact ⟨_, _, _, h⟩
def AggP (V S : Int) (v : Value) (w : World) : Prop := ∃ s : Nat → Value, (∀ j, SlP (partsK j V S) (s j) w) ∧ v = .agg #[.slice none 0 0, s 1, s 2, s 3, s 4, s 5, s 6, s 7, s 8, s 9, s 10, s 11, s 12, s 13]
def SP (V S : Int) : KDp → Nat → Nat → Value → World → Prop
  | .val p, _, _, v, w => v = partV p
  | .sl L, _, _, v, w => SlP L v w
  | .agg, _, _, v, w => AggP V S v w
  | .box, lo, hi, v, w => ∃ g, v = .pointer (some ⟨g, 0, none⟩) ∧ lo ≤ g ∧ g < hi ∧ w.heap[g]? = some (.cells (Array.replicate 14 (.slice none 0 0)) 206 (0, 0))
theorem SP.mono {V S : Int} {k : KDp} {x y : Nat} {v : Value} {w w' : World} (hy : y ≤ w.heap.size) (b : Below w.heap.size w w') (h : SP V S k x y v w) : SP V S k x y v w' := by
  cases k with
  | val p => exact h
  | sl L => exact SlP.below h b
  | agg =>
    obtain ⟨s, h1, h2⟩ := h
    exact ⟨s, fun j => (h1 j).below b, h2⟩
  | box =>
    obtain ⟨g, h1, h2, h3, h4⟩ := h
    exact ⟨g, h1, h2, h3, (b.block g (by omega)).trans h4⟩
def tabP (V S : Int) : List KDp := [KDp.val ⟨0, 0, 5⟩, KDp.val ⟨2, 0, 1099511627776⟩, KDp.sl [⟨0, 0, 5⟩, ⟨2, 0, 1099511627776⟩], KDp.sl [⟨0, 0, 5⟩, ⟨2, 0, 1099511627776⟩], KDp.val ⟨1, 0, S - 1⟩, KDp.val ⟨2, 0, 1099511627776⟩, KDp.sl [⟨1, 0, S - 1⟩, ⟨2, 0, 1099511627776⟩], KDp.sl [⟨1, 0, S - 1⟩, ⟨2, 0, 1099511627776⟩], KDp.val ⟨1, 0, V - 1⟩, KDp.val ⟨3, -9223372036854775808, 9223372036854775807⟩, KDp.sl [⟨1, 0, V - 1⟩, ⟨3, -9223372036854775808, 9223372036854775807⟩], KDp.sl [⟨1, 0, V - 1⟩, ⟨3, -9223372036854775808, 9223372036854775807⟩], KDp.val ⟨1, 0, S - 1⟩, KDp.sl [⟨1, 0, S - 1⟩], KDp.sl [⟨1, 0, S - 1⟩], KDp.val ⟨2, 1, 1099511627776⟩, KDp.sl [⟨2, 1, 1099511627776⟩], KDp.sl [⟨2, 1, 1099511627776⟩], KDp.val ⟨1, 0, S - 1⟩, KDp.sl [⟨1, 0, S - 1⟩], KDp.sl [⟨1, 0, S - 1⟩], KDp.val ⟨2, 0, 1099511627776⟩, KDp.sl [⟨2, 0, 1099511627776⟩], KDp.sl [⟨2, 0, 1099511627776⟩], KDp.val ⟨1, 0, V - 1⟩, KDp.val ⟨3, -9223372036854775808, 9223372036854775807⟩, KDp.sl [⟨1, 0, V - 1⟩, ⟨3, -9223372036854775808, 9223372036854775807⟩], KDp.sl [⟨1, 0, V - 1⟩, ⟨3, -9223372036854775808, 9223372036854775807⟩], KDp.val ⟨1, 0, S - 1⟩, KDp.sl [⟨1, 0, S - 1⟩], KDp.sl [⟨1, 0, S - 1⟩], KDp.val ⟨4, 1, 6⟩, KDp.val ⟨1, 0, S - 1⟩, KDp.sl [⟨4, 1, 6⟩, ⟨1, 0, S - 1⟩], KDp.sl [⟨4, 1, 6⟩, ⟨1, 0, S - 1⟩], KDp.val ⟨1, 0, S - 1⟩, KDp.sl [⟨1, 0, S - 1⟩], KDp.sl [⟨1, 0, S - 1⟩], KDp.sl [], KDp.sl [], KDp.agg, KDp.box]
theorem hV {a : Act} {t : Nat} {v u : Value} (e : a.tmps[t]? = some v) (h : v = u) : a.tmps[t]?.getD undef = u := by rw [e, h]; rfl
theorem below_setRowW {B g : Nat} {w w' : World} (h : Below B w w') (hg : B ≤ g) (cs : Array Value) : Below B w (w'.setRow g cs) :=
  h.trans ⟨rfl, rfl, rfl, by simp, fun k hk => setRow_other _ _ _ _ (by omega)⟩
noncomputable def opsP : Array Oper := opsW Tryz.f130 7
def dsP : List Nat := [26, 27, 28, 29, 30, 31, 32, 33, 34, 35, 36, 37, 38, 39, 40, 41, 42, 43, 44, 45, 46, 47, 48, 49, 50, 51, 52, 53, 54, 55, 56, 57, 58, 59, 60, 61, 62, 63, 64, 65, 66, 12]
set_option maxRecDepth 100000 in
set_option maxHeartbeats 4000000 in
theorem regP {id : Nat} {ops : Array Oper} (hops : ops = opsP) (T0 : Array Value) (hsz : 80 ≤ T0.size) (W : World) (V S : Int) (b : Nat → Nat) (h5 : T0[5]? = some (.pointer (some ⟨b 5, 0, none⟩))) (h6 : T0[6]? = some (.pointer (some ⟨b 6, 0, none⟩))) (h7 : T0[7]? = some (.pointer (some ⟨b 7, 0, none⟩))) (h8 : T0[8]? = some (.pointer (some ⟨b 8, 0, none⟩))) (h9 : T0[9]? = some (.pointer (some ⟨b 9, 0, none⟩))) (h10 : T0[10]? = some (.pointer (some ⟨b 10, 0, none⟩))) (h11 : T0[11]? = some (.pointer (some ⟨b 11, 0, none⟩))) (p5 : PBox W (b 5) ⟨0, 0, 5⟩) (p6 : PBox W (b 6) ⟨2, 0, 1099511627776⟩) (p7 : PBox W (b 7) ⟨2, 1, 1099511627776⟩) (p8 : PBox W (b 8) ⟨1, 0, S - 1⟩) (p9 : PBox W (b 9) ⟨1, 0, V - 1⟩) (p10 : PBox W (b 10) ⟨3, -9223372036854775808, 9223372036854775807⟩) (p11 : PBox W (b 11) ⟨4, 1, 6⟩) {Q : Exit → Act → World → Prop}
    (hend : ∀ (us : List Value) (X : Value) (g : Nat) (s : Nat → Value) (w : World), us.length = 42 → Below W.heap.size W w → W.heap.size ≤ g → w.heap[g]? = some (.cells #[.slice none 0 0, s 1, s 2, s 3, s 4, s 5, s 6, s 7, s 8, s 9, s 10, s 11, s 12, s 13] 206 (0, 0)) → (∀ j, SlP (partsK j V S) (s j) w) → us.getD 41 undef = .pointer (some ⟨g, 0, none⟩) → Q .normal ⟨putAll T0 dsP us, []⟩ w) :
    (Code.region id ops true).wp Tryz.prog Q ⟨T0, []⟩ W := by
  subst hops
  have hos : opsP.size = 43 := by kernel_rfl
  refine wp_region_tail (fun i => SP V S ((tabP V S).getD i .box)) dsP W T0 (by decide) (fun x hx => ?_) (by kernel_rfl) (by kernel_rfl) (fun i x y v w w' hb hy b h => SP.mono hy b h) ?_ ?_
  · have hall : (dsP.all fun d => decide (d < 80)) = true := by decide
    have := List.all_eq_true.1 hall x hx
    simp only [decide_eq_true_eq] at this
    omega
  · intro i o ho hi a w hT hdep hb K hK
    have hw : ∀ j, waitsW opsP i j = true → ∃ v x y, a.tmps[dsP.getD j 0]? = some v ∧ SP V S ((tabP V S).getD j .box) x y v w := fun j hj => waitsW_of (P := fun j => ∃ v x y, a.tmps[dsP.getD j 0]? = some v ∧ SP V S ((tabP V S).getD j .box) x y v w) ho hdep hj
    have hT0 : ∀ t v, t ∉ dsP → T0[t]? = some v → a.tmps[t]?.getD undef = v := fun t v ht hv => by
      rw [hT t ht, hv]
      rfl
    match i, hi with
    | 0, _ => exact w_load 5 (b 5) (opAtW ho (by kernel_rfl)) (hT0 5 _ (by decide) (h5)) (p5.below hb) (hK _ _ (Below.refl _ _) rfl)
    | 1, _ => exact w_load 6 (b 6) (opAtW ho (by kernel_rfl)) (hT0 6 _ (by decide) (h6)) (p6.below hb) (hK _ _ (Below.refl _ _) rfl)
    | 2, _ =>
      obtain ⟨v0, _, _, e0, s0⟩ := hw 0 (by kernel_rfl)
      obtain ⟨v1, _, _, e1, s1⟩ := hw 1 (by kernel_rfl)
      exact w_sl2 26 27 (opAtW ho (by kernel_rfl)) (hV e0 s0) (hV e1 s1) (fun v w' hb' hs => hK v w' hb' hs)
    | 3, _ =>
      obtain ⟨v0, _, _, e0, s0⟩ := hw 2 (by kernel_rfl)
      exact w_row 28 (opAtW ho (by kernel_rfl)) (hV e0 rfl) s0 (hK _ _ (Below.refl _ _) s0)
    | 4, _ => exact w_load 8 (b 8) (opAtW ho (by kernel_rfl)) (hT0 8 _ (by decide) (h8)) (p8.below hb) (hK _ _ (Below.refl _ _) rfl)
    | 5, _ => exact w_load 6 (b 6) (opAtW ho (by kernel_rfl)) (hT0 6 _ (by decide) (h6)) (p6.below hb) (hK _ _ (Below.refl _ _) rfl)
    | 6, _ =>
      obtain ⟨v0, _, _, e0, s0⟩ := hw 4 (by kernel_rfl)
      obtain ⟨v1, _, _, e1, s1⟩ := hw 5 (by kernel_rfl)
      exact w_sl2 30 31 (opAtW ho (by kernel_rfl)) (hV e0 s0) (hV e1 s1) (fun v w' hb' hs => hK v w' hb' hs)
    | 7, _ =>
      obtain ⟨v0, _, _, e0, s0⟩ := hw 6 (by kernel_rfl)
      exact w_row 32 (opAtW ho (by kernel_rfl)) (hV e0 rfl) s0 (hK _ _ (Below.refl _ _) s0)
    | 8, _ => exact w_load 9 (b 9) (opAtW ho (by kernel_rfl)) (hT0 9 _ (by decide) (h9)) (p9.below hb) (hK _ _ (Below.refl _ _) rfl)
    | 9, _ => exact w_load 10 (b 10) (opAtW ho (by kernel_rfl)) (hT0 10 _ (by decide) (h10)) (p10.below hb) (hK _ _ (Below.refl _ _) rfl)
    | 10, _ =>
      obtain ⟨v0, _, _, e0, s0⟩ := hw 8 (by kernel_rfl)
      obtain ⟨v1, _, _, e1, s1⟩ := hw 9 (by kernel_rfl)
      exact w_sl2 34 35 (opAtW ho (by kernel_rfl)) (hV e0 s0) (hV e1 s1) (fun v w' hb' hs => hK v w' hb' hs)
    | 11, _ =>
      obtain ⟨v0, _, _, e0, s0⟩ := hw 10 (by kernel_rfl)
      exact w_row 36 (opAtW ho (by kernel_rfl)) (hV e0 rfl) s0 (hK _ _ (Below.refl _ _) s0)
    | 12, _ => exact w_load 8 (b 8) (opAtW ho (by kernel_rfl)) (hT0 8 _ (by decide) (h8)) (p8.below hb) (hK _ _ (Below.refl _ _) rfl)
    | 13, _ =>
      obtain ⟨v0, _, _, e0, s0⟩ := hw 12 (by kernel_rfl)
      exact w_sl1 38 (opAtW ho (by kernel_rfl)) (hV e0 s0) (fun v w' hb' hs => hK v w' hb' hs)
    | 14, _ =>
      obtain ⟨v0, _, _, e0, s0⟩ := hw 13 (by kernel_rfl)
      exact w_row 39 (opAtW ho (by kernel_rfl)) (hV e0 rfl) s0 (hK _ _ (Below.refl _ _) s0)
    | 15, _ => exact w_load 7 (b 7) (opAtW ho (by kernel_rfl)) (hT0 7 _ (by decide) (h7)) (p7.below hb) (hK _ _ (Below.refl _ _) rfl)
    | 16, _ =>
      obtain ⟨v0, _, _, e0, s0⟩ := hw 15 (by kernel_rfl)
      exact w_sl1 41 (opAtW ho (by kernel_rfl)) (hV e0 s0) (fun v w' hb' hs => hK v w' hb' hs)
    | 17, _ =>
      obtain ⟨v0, _, _, e0, s0⟩ := hw 16 (by kernel_rfl)
      exact w_row 42 (opAtW ho (by kernel_rfl)) (hV e0 rfl) s0 (hK _ _ (Below.refl _ _) s0)
    | 18, _ => exact w_load 8 (b 8) (opAtW ho (by kernel_rfl)) (hT0 8 _ (by decide) (h8)) (p8.below hb) (hK _ _ (Below.refl _ _) rfl)
    | 19, _ =>
      obtain ⟨v0, _, _, e0, s0⟩ := hw 18 (by kernel_rfl)
      exact w_sl1 44 (opAtW ho (by kernel_rfl)) (hV e0 s0) (fun v w' hb' hs => hK v w' hb' hs)
    | 20, _ =>
      obtain ⟨v0, _, _, e0, s0⟩ := hw 19 (by kernel_rfl)
      exact w_row 45 (opAtW ho (by kernel_rfl)) (hV e0 rfl) s0 (hK _ _ (Below.refl _ _) s0)
    | 21, _ => exact w_load 6 (b 6) (opAtW ho (by kernel_rfl)) (hT0 6 _ (by decide) (h6)) (p6.below hb) (hK _ _ (Below.refl _ _) rfl)
    | 22, _ =>
      obtain ⟨v0, _, _, e0, s0⟩ := hw 21 (by kernel_rfl)
      exact w_sl1 47 (opAtW ho (by kernel_rfl)) (hV e0 s0) (fun v w' hb' hs => hK v w' hb' hs)
    | 23, _ =>
      obtain ⟨v0, _, _, e0, s0⟩ := hw 22 (by kernel_rfl)
      exact w_row 48 (opAtW ho (by kernel_rfl)) (hV e0 rfl) s0 (hK _ _ (Below.refl _ _) s0)
    | 24, _ => exact w_load 9 (b 9) (opAtW ho (by kernel_rfl)) (hT0 9 _ (by decide) (h9)) (p9.below hb) (hK _ _ (Below.refl _ _) rfl)
    | 25, _ => exact w_load 10 (b 10) (opAtW ho (by kernel_rfl)) (hT0 10 _ (by decide) (h10)) (p10.below hb) (hK _ _ (Below.refl _ _) rfl)
    | 26, _ =>
      obtain ⟨v0, _, _, e0, s0⟩ := hw 24 (by kernel_rfl)
      obtain ⟨v1, _, _, e1, s1⟩ := hw 25 (by kernel_rfl)
      exact w_sl2 50 51 (opAtW ho (by kernel_rfl)) (hV e0 s0) (hV e1 s1) (fun v w' hb' hs => hK v w' hb' hs)
    | 27, _ =>
      obtain ⟨v0, _, _, e0, s0⟩ := hw 26 (by kernel_rfl)
      exact w_row 52 (opAtW ho (by kernel_rfl)) (hV e0 rfl) s0 (hK _ _ (Below.refl _ _) s0)
    | 28, _ => exact w_load 8 (b 8) (opAtW ho (by kernel_rfl)) (hT0 8 _ (by decide) (h8)) (p8.below hb) (hK _ _ (Below.refl _ _) rfl)
    | 29, _ =>
      obtain ⟨v0, _, _, e0, s0⟩ := hw 28 (by kernel_rfl)
      exact w_sl1 54 (opAtW ho (by kernel_rfl)) (hV e0 s0) (fun v w' hb' hs => hK v w' hb' hs)
    | 30, _ =>
      obtain ⟨v0, _, _, e0, s0⟩ := hw 29 (by kernel_rfl)
      exact w_row 55 (opAtW ho (by kernel_rfl)) (hV e0 rfl) s0 (hK _ _ (Below.refl _ _) s0)
    | 31, _ => exact w_load 11 (b 11) (opAtW ho (by kernel_rfl)) (hT0 11 _ (by decide) (h11)) (p11.below hb) (hK _ _ (Below.refl _ _) rfl)
    | 32, _ => exact w_load 8 (b 8) (opAtW ho (by kernel_rfl)) (hT0 8 _ (by decide) (h8)) (p8.below hb) (hK _ _ (Below.refl _ _) rfl)
    | 33, _ =>
      obtain ⟨v0, _, _, e0, s0⟩ := hw 31 (by kernel_rfl)
      obtain ⟨v1, _, _, e1, s1⟩ := hw 32 (by kernel_rfl)
      exact w_sl2 57 58 (opAtW ho (by kernel_rfl)) (hV e0 s0) (hV e1 s1) (fun v w' hb' hs => hK v w' hb' hs)
    | 34, _ =>
      obtain ⟨v0, _, _, e0, s0⟩ := hw 33 (by kernel_rfl)
      exact w_row 59 (opAtW ho (by kernel_rfl)) (hV e0 rfl) s0 (hK _ _ (Below.refl _ _) s0)
    | 35, _ => exact w_load 8 (b 8) (opAtW ho (by kernel_rfl)) (hT0 8 _ (by decide) (h8)) (p8.below hb) (hK _ _ (Below.refl _ _) rfl)
    | 36, _ =>
      obtain ⟨v0, _, _, e0, s0⟩ := hw 35 (by kernel_rfl)
      exact w_sl1 61 (opAtW ho (by kernel_rfl)) (hV e0 s0) (fun v w' hb' hs => hK v w' hb' hs)
    | 37, _ =>
      obtain ⟨v0, _, _, e0, s0⟩ := hw 36 (by kernel_rfl)
      exact w_row 62 (opAtW ho (by kernel_rfl)) (hV e0 rfl) s0 (hK _ _ (Below.refl _ _) s0)
    | 38, _ => exact w_row0 (opAtW ho (by kernel_rfl)) (hK _ _ (Below.refl _ _) (.inl ⟨rfl, rfl⟩))
    | 39, _ => exact w_row0 (opAtW ho (by kernel_rfl)) (hK _ _ (Below.refl _ _) (.inl ⟨rfl, rfl⟩))
    | 40, _ =>
      obtain ⟨v1, _, _, e1, s1⟩ := hw 3 (by kernel_rfl)
      obtain ⟨v2, _, _, e2, s2⟩ := hw 7 (by kernel_rfl)
      obtain ⟨v3, _, _, e3, s3⟩ := hw 11 (by kernel_rfl)
      obtain ⟨v4, _, _, e4, s4⟩ := hw 14 (by kernel_rfl)
      obtain ⟨v5, _, _, e5, s5⟩ := hw 17 (by kernel_rfl)
      obtain ⟨v6, _, _, e6, s6⟩ := hw 20 (by kernel_rfl)
      obtain ⟨v7, _, _, e7, s7⟩ := hw 23 (by kernel_rfl)
      obtain ⟨v8, _, _, e8, s8⟩ := hw 27 (by kernel_rfl)
      obtain ⟨v9, _, _, e9, s9⟩ := hw 30 (by kernel_rfl)
      obtain ⟨v10, _, _, e10, s10⟩ := hw 34 (by kernel_rfl)
      obtain ⟨v11, _, _, e11, s11⟩ := hw 37 (by kernel_rfl)
      obtain ⟨v12, _, _, e12, s12⟩ := hw 38 (by kernel_rfl)
      obtain ⟨v13, _, _, e13, s13⟩ := hw 39 (by kernel_rfl)
      have hs : ∀ j, SlP (partsK j V S) ((fun j => match j with | 1 => v1 | 2 => v2 | 3 => v3 | 4 => v4 | 5 => v5 | 6 => v6 | 7 => v7 | 8 => v8 | 9 => v9 | 10 => v10 | 11 => v11 | 12 => v12 | 13 => v13 | _ => .slice none 0 0 : Nat → Value) j) w := fun j => by
        match j with
        | 0 => exact .inl ⟨rfl, rfl⟩
        | 1 => exact s1
        | 2 => exact s2
        | 3 => exact s3
        | 4 => exact s4
        | 5 => exact s5
        | 6 => exact s6
        | 7 => exact s7
        | 8 => exact s8
        | 9 => exact s9
        | 10 => exact s10
        | 11 => exact s11
        | 12 => exact s12
        | 13 => exact s13
        | j + 14 => exact .inl ⟨rfl, rfl⟩
      have hsl : ∀ j, ∃ A n c, ((fun j => match j with | 1 => v1 | 2 => v2 | 3 => v3 | 4 => v4 | 5 => v5 | 6 => v6 | 7 => v7 | 8 => v8 | 9 => v9 | 10 => v10 | 11 => v11 | 12 => v12 | 13 => v13 | _ => .slice none 0 0 : Nat → Value) j) = .slice A n c := fun j => SlP.slice (hs j)
      exact w_build (v := fun j => match j with | 1 => v1 | 2 => v2 | 3 => v3 | 4 => v4 | 5 => v5 | 6 => v6 | 7 => v7 | 8 => v8 | 9 => v9 | 10 => v10 | 11 => v11 | 12 => v12 | 13 => v13 | _ => .slice none 0 0) (A := fun j => (hsl j).choose) (n := fun j => (hsl j).choose_spec.choose) (c := fun j => (hsl j).choose_spec.choose_spec.choose) (fun j => (hsl j).choose_spec.choose_spec.choose_spec) (opAtW ho (by kernel_rfl)) (hV e1 rfl) (hV e2 rfl) (hV e3 rfl) (hV e4 rfl) (hV e5 rfl) (hV e6 rfl) (hV e7 rfl) (hV e8 rfl) (hV e9 rfl) (hV e10 rfl) (hV e11 rfl) (hV e12 rfl) (hV e13 rfl) (hK _ _ (Below.refl _ _) ⟨_, hs, rfl⟩)
    | 41, _ => exact w_alloc (opAtW ho (by kernel_rfl)) (hK _ _ ((Below.refl _ _).alloc (Nat.le_refl _) _) ⟨_, rfl, Nat.le_refl _, by simp, World.alloc_heap_new _ _⟩)
    | i + 42, h => exact absurd (show i + 42 < 42 from h) (by omega)
  · intro us lo hi w hu hb hS hdj
    obtain ⟨s, hs1, hs2⟩ := (hS 40 (by decide)).2.2.2
    obtain ⟨g, hg1, hg2, hg3, hg4⟩ := (hS 41 (by decide)).2.2.2
    have t12 : (putAll T0 dsP us)[12]? = some (us.getD 41 undef) := by
      have := putAll_at T0 dsP us 41 (by decide) hu.symm (by decide) (by show 12 < T0.size; omega)
      rw [List.getD_eq_getElem?_getD]
      have h42 : 41 < us.length := by rw [hu]; decide
      rw [List.getElem?_eq_getElem h42] at this ⊢
      exact this
    have t66 : (putAll T0 dsP us)[66]? = some (us.getD 40 undef) := by
      have := putAll_at T0 dsP us 40 (by decide) hu.symm (by decide) (by show 66 < T0.size; omega)
      rw [List.getD_eq_getElem?_getD]
      have h42 : 40 < us.length := by rw [hu]; decide
      rw [List.getElem?_eq_getElem h42] at this ⊢
      exact this
    obtain ⟨o, k1⟩ : ∃ o, opsP[42]? = some o := ⟨_, Array.getElem?_eq_getElem (by omega)⟩
    have hsl : ∀ j, ∃ A n c, s j = .slice A n c := fun j => (hs1 j).slice
    rw [show dsP.length = 42 from rfl]
    refine wpListW k1 (guardW k1 (by kernel_rfl)) (wp_store_row 206 (.tmp 12) (.tmp 66) (opAtW k1 (by kernel_rfl)) g #[.slice none 0 0, s 1, s 2, s 3, s 4, s 5, s 6, s 7, s 8, s 9, s 10, s 11, s 12, s 13] ?_ ?_ 206 _ hg4 (by kernel_rfl) rfl ?_ ?_)
    · show (putAll T0 dsP us).getD 12 undef = _
      rw [Array.getD_eq_getD_getElem?, t12]
      exact hg1
    · show (putAll T0 dsP us).getD 66 undef = _
      rw [Array.getD_eq_getD_getElem?, t66]
      exact hs2
    · have ho1 : ∀ j, (s j).oneCell' = true := fun j => by
        obtain ⟨A, n, c, h⟩ := hsl j
        rw [h]
        rfl
      have ho0 : (Value.slice none 0 0).oneCell' = true := rfl
      simp [ho1, ho0]
    · rw [dstW k1 (x := none) (by kernel_rfl)]
      rw [show opsP.toList.drop (42 + 1) = [] from List.drop_eq_nil_of_le (by simp [hos]), wpList]
      refine hend us (us.getD 40 undef) g s _ hu (below_setRowW hb (Nat.le_trans (hS 41 (by decide)).1 hg2) _) (Nat.le_trans (hS 41 (by decide)).1 hg2) (setRow_heap _ _ _ _ _ _ hg4) (fun j => ?_) hg1
      rcases hs1 j with h | ⟨g2, h1, h2⟩
      · exact .inl h
      · refine .inr ⟨g2, h1, ?_⟩
        rw [setRow_other _ _ _ _ (by
          rintro rfl
          have h5 := Option.some.inj (h2.symm.trans hg4)
          injection h5 with _ h6
          exact absurd h6 (by decide))]
        exact h2
end Go.Proofs.YteigglhhnemngaaGreatDoor
namespace Go.Proofs.YteigglhhnemngaaGreatDoor
set_option maxRecDepth 100000
open Go.RowKit Go.Shelf
set_option linter.unusedVariables false
attribute [local go_sem] Oper.semAt_some
theorem PBox.new (w : World) (p : Part) : PBox (w.alloc (.cells #[.func (.func (fnP p.wh)) #[] #[], .int .i64 p.lo, .int .i64 p.hi] 186)) w.heap.size p :=
  ⟨World.cell?_alloc_mark w _ _ (0, 0) 0, World.cell?_alloc_mark w _ _ (0, 0) 1, World.cell?_alloc_mark w _ _ (0, 0) 2⟩
theorem PBox.al {w : World} {g : Nat} {p : Part} (h : PBox w g p) (o : Obj) : PBox (w.alloc o) g p := h.below ((Below.refl _ _).alloc (Nat.le_refl _) o)
theorem PBox.new1 (w : World) (g : Nat) (hg : w.heap.size = g) (p : Part) : PBox (w.alloc (.cells #[.func (.func (fnP p.wh)) #[] #[], .int .i64 p.lo, .int .i64 p.hi] 186)) g p := hg ▸ PBox.new w p
def bx0 (V S : Int) (W : World) : World := (W).alloc (.cells #[.func (.func 131) #[] #[], .int .i64 (0), .int .i64 (5)] 186)
def bx1 (V S : Int) (W : World) : World := (bx0 V S W).alloc (.cells #[.func (.func 132) #[] #[], .int .i64 (0), .int .i64 (1099511627776)] 186)
def bx2 (V S : Int) (W : World) : World := (bx1 V S W).alloc (.cells #[.func (.func 132) #[] #[], .int .i64 (1), .int .i64 (1099511627776)] 186)
def bx3 (V S : Int) (W : World) : World := (bx2 V S W).alloc (.cells #[.func (.func 133) #[] #[], .int .i64 (0), .int .i64 (S - 1)] 186)
def bx4 (V S : Int) (W : World) : World := (bx3 V S W).alloc (.cells #[.func (.func 133) #[] #[], .int .i64 (0), .int .i64 (V - 1)] 186)
def bx5 (V S : Int) (W : World) : World := (bx4 V S W).alloc (.cells #[.func (.func 134) #[] #[], .int .i64 (-9223372036854775808), .int .i64 (9223372036854775807)] 186)
def bx6 (V S : Int) (W : World) : World := (bx5 V S W).alloc (.cells #[.func (.func 135) #[] #[], .int .i64 (1), .int .i64 (6)] 186)
theorem bx_size0 (V S : Int) (W : World) : (bx0 V S W).heap.size = W.heap.size + 1 := by simp [bx0]
theorem bx_size1 (V S : Int) (W : World) : (bx1 V S W).heap.size = W.heap.size + 2 := by simp [bx1, bx_size0]
theorem bx_size2 (V S : Int) (W : World) : (bx2 V S W).heap.size = W.heap.size + 3 := by simp [bx2, bx_size1]
theorem bx_size3 (V S : Int) (W : World) : (bx3 V S W).heap.size = W.heap.size + 4 := by simp [bx3, bx_size2]
theorem bx_size4 (V S : Int) (W : World) : (bx4 V S W).heap.size = W.heap.size + 5 := by simp [bx4, bx_size3]
theorem bx_size5 (V S : Int) (W : World) : (bx5 V S W).heap.size = W.heap.size + 6 := by simp [bx5, bx_size4]
theorem bx_below0 (V S : Int) (W : World) : Below W.heap.size W (bx0 V S W) := (Below.refl _ _).alloc (Nat.le_refl _) _
theorem bx_below1 (V S : Int) (W : World) : Below W.heap.size W (bx1 V S W) := (bx_below0 V S W).alloc (by rw [bx_size0]; omega) _
theorem bx_below2 (V S : Int) (W : World) : Below W.heap.size W (bx2 V S W) := (bx_below1 V S W).alloc (by rw [bx_size1]; omega) _
theorem bx_below3 (V S : Int) (W : World) : Below W.heap.size W (bx3 V S W) := (bx_below2 V S W).alloc (by rw [bx_size2]; omega) _
theorem bx_below4 (V S : Int) (W : World) : Below W.heap.size W (bx4 V S W) := (bx_below3 V S W).alloc (by rw [bx_size3]; omega) _
theorem bx_below5 (V S : Int) (W : World) : Below W.heap.size W (bx5 V S W) := (bx_below4 V S W).alloc (by rw [bx_size4]; omega) _
theorem bx_below6 (V S : Int) (W : World) : Below W.heap.size W (bx6 V S W) := (bx_below5 V S W).alloc (by rw [bx_size5]; omega) _
theorem bx_box0 (V S : Int) (W : World) : PBox (bx6 V S W) (W.heap.size + 0) ⟨0, 0, 5⟩ := by
  have q := PBox.new1 W _ rfl ⟨0, 0, 5⟩
  have h0 : PBox (bx0 V S W) (W.heap.size + 0) ⟨0, 0, 5⟩ := q
  have h1 : PBox (bx1 V S W) (W.heap.size + 0) ⟨0, 0, 5⟩ := h0.al _
  have h2 : PBox (bx2 V S W) (W.heap.size + 0) ⟨0, 0, 5⟩ := h1.al _
  have h3 : PBox (bx3 V S W) (W.heap.size + 0) ⟨0, 0, 5⟩ := h2.al _
  have h4 : PBox (bx4 V S W) (W.heap.size + 0) ⟨0, 0, 5⟩ := h3.al _
  have h5 : PBox (bx5 V S W) (W.heap.size + 0) ⟨0, 0, 5⟩ := h4.al _
  have h6 : PBox (bx6 V S W) (W.heap.size + 0) ⟨0, 0, 5⟩ := h5.al _
  exact h6
theorem bx_box1 (V S : Int) (W : World) : PBox (bx6 V S W) (W.heap.size + 1) ⟨2, 0, 1099511627776⟩ := by
  have q := PBox.new1 (bx0 V S W) _ (bx_size0 V S W) ⟨2, 0, 1099511627776⟩
  have h1 : PBox (bx1 V S W) (W.heap.size + 1) ⟨2, 0, 1099511627776⟩ := q
  have h2 : PBox (bx2 V S W) (W.heap.size + 1) ⟨2, 0, 1099511627776⟩ := h1.al _
  have h3 : PBox (bx3 V S W) (W.heap.size + 1) ⟨2, 0, 1099511627776⟩ := h2.al _
  have h4 : PBox (bx4 V S W) (W.heap.size + 1) ⟨2, 0, 1099511627776⟩ := h3.al _
  have h5 : PBox (bx5 V S W) (W.heap.size + 1) ⟨2, 0, 1099511627776⟩ := h4.al _
  have h6 : PBox (bx6 V S W) (W.heap.size + 1) ⟨2, 0, 1099511627776⟩ := h5.al _
  exact h6
theorem bx_box2 (V S : Int) (W : World) : PBox (bx6 V S W) (W.heap.size + 2) ⟨2, 1, 1099511627776⟩ := by
  have q := PBox.new1 (bx1 V S W) _ (bx_size1 V S W) ⟨2, 1, 1099511627776⟩
  have h2 : PBox (bx2 V S W) (W.heap.size + 2) ⟨2, 1, 1099511627776⟩ := q
  have h3 : PBox (bx3 V S W) (W.heap.size + 2) ⟨2, 1, 1099511627776⟩ := h2.al _
  have h4 : PBox (bx4 V S W) (W.heap.size + 2) ⟨2, 1, 1099511627776⟩ := h3.al _
  have h5 : PBox (bx5 V S W) (W.heap.size + 2) ⟨2, 1, 1099511627776⟩ := h4.al _
  have h6 : PBox (bx6 V S W) (W.heap.size + 2) ⟨2, 1, 1099511627776⟩ := h5.al _
  exact h6
theorem bx_box3 (V S : Int) (W : World) : PBox (bx6 V S W) (W.heap.size + 3) ⟨1, 0, S - 1⟩ := by
  have q := PBox.new1 (bx2 V S W) _ (bx_size2 V S W) ⟨1, 0, S - 1⟩
  have h3 : PBox (bx3 V S W) (W.heap.size + 3) ⟨1, 0, S - 1⟩ := q
  have h4 : PBox (bx4 V S W) (W.heap.size + 3) ⟨1, 0, S - 1⟩ := h3.al _
  have h5 : PBox (bx5 V S W) (W.heap.size + 3) ⟨1, 0, S - 1⟩ := h4.al _
  have h6 : PBox (bx6 V S W) (W.heap.size + 3) ⟨1, 0, S - 1⟩ := h5.al _
  exact h6
theorem bx_box4 (V S : Int) (W : World) : PBox (bx6 V S W) (W.heap.size + 4) ⟨1, 0, V - 1⟩ := by
  have q := PBox.new1 (bx3 V S W) _ (bx_size3 V S W) ⟨1, 0, V - 1⟩
  have h4 : PBox (bx4 V S W) (W.heap.size + 4) ⟨1, 0, V - 1⟩ := q
  have h5 : PBox (bx5 V S W) (W.heap.size + 4) ⟨1, 0, V - 1⟩ := h4.al _
  have h6 : PBox (bx6 V S W) (W.heap.size + 4) ⟨1, 0, V - 1⟩ := h5.al _
  exact h6
theorem bx_box5 (V S : Int) (W : World) : PBox (bx6 V S W) (W.heap.size + 5) ⟨3, -9223372036854775808, 9223372036854775807⟩ := by
  have q := PBox.new1 (bx4 V S W) _ (bx_size4 V S W) ⟨3, -9223372036854775808, 9223372036854775807⟩
  have h5 : PBox (bx5 V S W) (W.heap.size + 5) ⟨3, -9223372036854775808, 9223372036854775807⟩ := q
  have h6 : PBox (bx6 V S W) (W.heap.size + 5) ⟨3, -9223372036854775808, 9223372036854775807⟩ := h5.al _
  exact h6
theorem bx_box6 (V S : Int) (W : World) : PBox (bx6 V S W) (W.heap.size + 6) ⟨4, 1, 6⟩ := by
  have q := PBox.new1 (bx5 V S W) _ (bx_size5 V S W) ⟨4, 1, 6⟩
  have h6 : PBox (bx6 V S W) (W.heap.size + 6) ⟨4, 1, 6⟩ := q
  exact h6
theorem cons_ofW {us : List Value} {n : Nat} (h : us.length = n + 1) : ∃ z r, us = z :: r ∧ r.length = n := by
  match us, h with
  | z :: r, h => exact ⟨z, r, rfl, by simpa using h⟩
theorem list42 {us : List Value} (h : us.length = 42) : ∃ z0 z1 z2 z3 z4 z5 z6 z7 z8 z9 z10 z11 z12 z13 z14 z15 z16 z17 z18 z19 z20 z21 z22 z23 z24 z25 z26 z27 z28 z29 z30 z31 z32 z33 z34 z35 z36 z37 z38 z39 z40 z41 : Value, us = [z0, z1, z2, z3, z4, z5, z6, z7, z8, z9, z10, z11, z12, z13, z14, z15, z16, z17, z18, z19, z20, z21, z22, z23, z24, z25, z26, z27, z28, z29, z30, z31, z32, z33, z34, z35, z36, z37, z38, z39, z40, z41] := by
  obtain ⟨z0, r0, rfl, h0⟩ := cons_ofW h
  obtain ⟨z1, r1, rfl, h1⟩ := cons_ofW h0
  obtain ⟨z2, r2, rfl, h2⟩ := cons_ofW h1
  obtain ⟨z3, r3, rfl, h3⟩ := cons_ofW h2
  obtain ⟨z4, r4, rfl, h4⟩ := cons_ofW h3
  obtain ⟨z5, r5, rfl, h5⟩ := cons_ofW h4
  obtain ⟨z6, r6, rfl, h6⟩ := cons_ofW h5
  obtain ⟨z7, r7, rfl, h7⟩ := cons_ofW h6
  obtain ⟨z8, r8, rfl, h8⟩ := cons_ofW h7
  obtain ⟨z9, r9, rfl, h9⟩ := cons_ofW h8
  obtain ⟨z10, r10, rfl, h10⟩ := cons_ofW h9
  obtain ⟨z11, r11, rfl, h11⟩ := cons_ofW h10
  obtain ⟨z12, r12, rfl, h12⟩ := cons_ofW h11
  obtain ⟨z13, r13, rfl, h13⟩ := cons_ofW h12
  obtain ⟨z14, r14, rfl, h14⟩ := cons_ofW h13
  obtain ⟨z15, r15, rfl, h15⟩ := cons_ofW h14
  obtain ⟨z16, r16, rfl, h16⟩ := cons_ofW h15
  obtain ⟨z17, r17, rfl, h17⟩ := cons_ofW h16
  obtain ⟨z18, r18, rfl, h18⟩ := cons_ofW h17
  obtain ⟨z19, r19, rfl, h19⟩ := cons_ofW h18
  obtain ⟨z20, r20, rfl, h20⟩ := cons_ofW h19
  obtain ⟨z21, r21, rfl, h21⟩ := cons_ofW h20
  obtain ⟨z22, r22, rfl, h22⟩ := cons_ofW h21
  obtain ⟨z23, r23, rfl, h23⟩ := cons_ofW h22
  obtain ⟨z24, r24, rfl, h24⟩ := cons_ofW h23
  obtain ⟨z25, r25, rfl, h25⟩ := cons_ofW h24
  obtain ⟨z26, r26, rfl, h26⟩ := cons_ofW h25
  obtain ⟨z27, r27, rfl, h27⟩ := cons_ofW h26
  obtain ⟨z28, r28, rfl, h28⟩ := cons_ofW h27
  obtain ⟨z29, r29, rfl, h29⟩ := cons_ofW h28
  obtain ⟨z30, r30, rfl, h30⟩ := cons_ofW h29
  obtain ⟨z31, r31, rfl, h31⟩ := cons_ofW h30
  obtain ⟨z32, r32, rfl, h32⟩ := cons_ofW h31
  obtain ⟨z33, r33, rfl, h33⟩ := cons_ofW h32
  obtain ⟨z34, r34, rfl, h34⟩ := cons_ofW h33
  obtain ⟨z35, r35, rfl, h35⟩ := cons_ofW h34
  obtain ⟨z36, r36, rfl, h36⟩ := cons_ofW h35
  obtain ⟨z37, r37, rfl, h37⟩ := cons_ofW h36
  obtain ⟨z38, r38, rfl, h38⟩ := cons_ofW h37
  obtain ⟨z39, r39, rfl, h39⟩ := cons_ofW h38
  obtain ⟨z40, r40, rfl, h40⟩ := cons_ofW h39
  obtain ⟨z41, r41, rfl, h41⟩ := cons_ofW h40
  obtain rfl := List.length_eq_zero_iff.1 h41
  exact ⟨z0, z1, z2, z3, z4, z5, z6, z7, z8, z9, z10, z11, z12, z13, z14, z15, z16, z17, z18, z19, z20, z21, z22, z23, z24, z25, z26, z27, z28, z29, z30, z31, z32, z33, z34, z35, z36, z37, z38, z39, z40, z41, rfl⟩
theorem parts_len (k : Nat) (V S : Int) : (partsK k V S).length ≤ 2 := by
  unfold partsK
  split <;> simp
theorem cell14 {w : World} {g k : Nat} {s : Nat → Value} {V S : Int} (h : w.heap[g]? = some (.cells #[.slice none 0 0, s 1, s 2, s 3, s 4, s 5, s 6, s 7, s 8, s 9, s 10, s 11, s 12, s 13] 206 (0, 0))) (hs : ∀ j, SlP (partsK j V S) (s j) w) (hk : k < 14) : ∃ v, w.cell? ⟨g, k, none⟩ = some v ∧ SlP (partsK k V S) v w := by
  have hc : w.cell? ⟨g, k, none⟩ = (#[.slice none 0 0, s 1, s 2, s 3, s 4, s 5, s 6, s 7, s 8, s 9, s 10, s 11, s 12, s 13] : Array Value)[k]? := cell_of_row w g k _ _ _ h
  rw [hc]
  match k, hk with
  | 0, _ => exact ⟨_, rfl, .inl ⟨rfl, rfl⟩⟩
  | 1, _ => exact ⟨_, rfl, hs 1⟩
  | 2, _ => exact ⟨_, rfl, hs 2⟩
  | 3, _ => exact ⟨_, rfl, hs 3⟩
  | 4, _ => exact ⟨_, rfl, hs 4⟩
  | 5, _ => exact ⟨_, rfl, hs 5⟩
  | 6, _ => exact ⟨_, rfl, hs 6⟩
  | 7, _ => exact ⟨_, rfl, hs 7⟩
  | 8, _ => exact ⟨_, rfl, hs 8⟩
  | 9, _ => exact ⟨_, rfl, hs 9⟩
  | 10, _ => exact ⟨_, rfl, hs 10⟩
  | 11, _ => exact ⟨_, rfl, hs 11⟩
  | 12, _ => exact ⟨_, rfl, hs 12⟩
  | 13, _ => exact ⟨_, rfl, hs 13⟩
  | k + 14, h => exact absurd h (by omega)
theorem own_belowW {β : Type} {B : Nat} {I : β → World → Prop} (h : OwnFrom B I) {s : β} {A C : World} (hb : Below A.heap.size A C) (hs : I s A) : I s C :=
  h s A C none hs ⟨hb.os, hb.tape, hb.output, hb.size, fun i hi _ => hb.block i hi⟩ (fun r e => by cases e)
theorem flat_part (L : List Part) (j i : Nat) (hj : j < L.length) (hi : i < 3) : (L.flatMap partC)[j * 3 + i]? = (partC L[j])[i]? := by
  induction L generalizing j with
  | nil => exact absurd hj (by simp)
  | cons p r ih =>
    rw [List.flatMap_cons]
    cases j with
    | zero => rw [List.getElem?_append_left (by simp [partC]; omega)]; simp
    | succ j =>
      rw [List.getElem?_append_right (by simp [partC]; omega)]
      have := ih j (by simpa using hj)
      rw [show (j + 1) * 3 + i - (partC p).length = j * 3 + i by simp [partC]; omega, this]
      simp
theorem row_part {w : World} {g j : Nat} {L : List Part} (h : w.heap[g]? = some (.cells (L.flatMap partC).toArray 186 (0, 0))) (hj : j < L.length) :
    w.cell? ⟨g, j * 3, none⟩ = some (.func (.func (fnP L[j].wh)) #[] #[]) ∧ w.cell? ⟨g, j * 3 + 1, none⟩ = some (.int .i64 L[j].lo) ∧ w.cell? ⟨g, j * 3 + 2, none⟩ = some (.int .i64 L[j].hi) := by
  have key : ∀ i, i < 3 → w.cell? ⟨g, j * 3 + i, none⟩ = (partC L[j])[i]? := fun i hi => by
    rw [cell_of_row w g _ _ _ _ h, List.getElem?_toArray]
    exact flat_part L j i hj hi
  exact ⟨key 0 (by omega), key 1 (by omega), key 2 (by omega)⟩
def encP (p : Part) : Array Value := #[partV p]
set_option maxRecDepth 100000 in
set_option maxHeartbeats 4000000 in
theorem parts_in (n : Nat) (hn : 3 ≤ n) (l B3 B4 B5 n₀ : Nat) (k : Nat) (hk : k < 14) (V S : Int) (v1 : 1 ≤ V) (v2 : V ≤ 32) (s1 : 1 ≤ S) (s2 : S ≤ 32) (J Jx : List Part → World → Prop) (W : World)
    (hY : ∀ pre x W1, J pre W1 → pre.length < 2 → YieldAt Fence.wide (n - 1) Tryz.prog l (encP x) W1 fun e W' => (e = .returned (.bool true) ∧ J (pre ++ [x]) W' ∧ KT n₀ 186 W1 W' ∧ KeepsFrom W.heap.size W1 W') ∨ (e = .returned (.bool false) ∧ Jx (pre ++ [x]) W' ∧ KeepsFrom W.heap.size W1 W'))
    (hn₀ : n₀ ≤ W.heap.size) (hJ : OwnFrom W.heap.size J) (b3 : _root_.Go.Boxed W B3 5 (.int .u8 k)) (b4 : _root_.Go.Boxed W B4 3 (.int .i64 V)) (b5 : _root_.Go.Boxed W B5 3 (.int .i64 S)) (h0 : J [] W) :
    CallsIn Fence.wide n Tryz.prog 130 #[.func (.yield l) #[] #[], .pointer (some ⟨B5, 0, none⟩), .pointer (some ⟨B4, 0, none⟩), .pointer (some ⟨B3, 0, none⟩)] W fun e W' => (∃ v, e = .returned v) ∧
      ((∃ ys, ys = partsK k V S ∧ J ys W') ∨ (∃ pre, pre <+: partsK k V S ∧ Jx pre W')) := by
  obtain ⟨L, hL⟩ : ∃ L, L = partsK k V S := ⟨_, rfl⟩
  rw [← hL]
  have HLe := Lib.hid hL
  have HL : L.length ≤ 2 := by rw [hL]; exact parts_len k V S
  clear hL
  have h1 : 1 ≤ n := by omega
  have c3 := b3.cell
  have c4 := b4.cell
  have c5 := b5.cell
  have l3 := b3.lt
  have l4 := b4.lt
  have l5 := b5.lt
  have l51 : B5 < W.heap.size + 1 := by omega
  have l52 : B5 < W.heap.size + 1 + 1 := by omega
  have l41 : B4 < W.heap.size + 1 := by omega
  have l42 : B4 < W.heap.size + 1 + 1 := by omega
  have l43 : B4 < W.heap.size + 1 + 1 + 1 := by omega
  have st := fun (k : Nat) (w : World) (a : Addr) (m : Mode) => run_store Tryz.prog w a (.func (.func k) #[] #[]) m rfl
  have HY := Lib.hid hY
  have HB3 := Lib.hid b3
  have HJ := Lib.hid hJ
  have H0 := Lib.hid h0
  clear hY hJ h0 b3 b4 b5
  refine callsIn_of_wp Tryz.func130 rfl trivial ?_ rfl
  simp only [Tryz.ntmps130, List.size_toArray, List.length_cons, List.length_nil, Nat.reduceAdd, Nat.reduceSub, Array.replicate_succ, Array.replicate_zero, List.push_toArray, List.append_toArray, List.nil_append, List.cons_append]
  gi_wp2
  change Code.wpIn _ _ _ _ _ _ (bx6 V S W)
  refine wpIn_wide.2 (regP rfl _ (by simp) _ V S (fun j => W.heap.size + (j - 5)) rfl rfl rfl rfl rfl rfl rfl (bx_box0 V S W) (bx_box1 V S W) (bx_box2 V S W) (bx_box3 V S W) (bx_box4 V S W) (bx_box5 V S W) (bx_box6 V S W) ?_)
  intro us X g s w hu hb hg1 hg2 hs h41
  have hB : Below W.heap.size W w := (bx_below6 V S W).trans (hb.mono (bx_below6 V S W).size)
  obtain ⟨v, cg, hv⟩ := cell14 hg2 hs hk
  have c3' : w.cell? ⟨B3, 0, none⟩ = some (.int .u8 k) := (hB.cell (p := ⟨B3, 0, none⟩) l3).trans c3
  have hgl := (Array.getElem?_eq_some_iff.1 hg2).1
  obtain ⟨z0, z1, z2, z3, z4, z5, z6, z7, z8, z9, z10, z11, z12, z13, z14, z15, z16, z17, z18, z19, z20, z21, z22, z23, z24, z25, z26, z27, z28, z29, z30, z31, z32, z33, z34, z35, z36, z37, z38, z39, z40, z41, rfl⟩ := list42 hu
  obtain rfl : z41 = .pointer (some ⟨g, 0, none⟩) := h41
  rw [← HLe.out] at hv
  obtain ⟨A, c, rfl, hA⟩ : ∃ A c, v = .slice A L.length c ∧ (L ≠ [] → ∃ gb, A = some ⟨gb, 0, none⟩ ∧ w.heap[gb]? = some (.cells (L.flatMap partC).toArray 186 (0, 0))) := by
    rcases hv with ⟨h, h'⟩ | ⟨gb, h, h'⟩
    · subst h
      exact ⟨none, 0, h', fun h => absurd rfl h⟩
    · exact ⟨_, _, h, fun _ => ⟨gb, rfl, h'⟩⟩
  have HA := Lib.hid hA
  have HB := Lib.hid hB
  have hJ0 : J [] w := own_belowW HJ.out hB H0.out
  have i1 : (0 : Int) ≤ (k : Int) := by omega
  have i2 : (k : Int) < 14 := by omega
  clear hv hs hg2 hb hg1 hA hB c3 c4 c5 hu
  simp only [dsP, putAll, List.setIfInBounds_toArray, List.set_cons_succ, List.set_cons_zero]
  have HJ0 := Lib.hid hJ0
  clear hJ0 l3 l4 l5 l51 l52 l41 l42 l43
  gi_wp2
  gi_loopw [71] (fun i wr => ∃ j : Nat, j ≤ L.length ∧ i = .int .i64 j ∧ Hid (J (L.take j) wr) ∧ Hid (KT n₀ 186 w wr) ∧ Hid (KeepsFrom W.heap.size w wr)) (fun i _ => L.length - (intOf i).toNat)
  case atStart => exact ⟨0, by omega, rfl, HJ0.out, KT.refl _, KeepsFrom.refl _ _⟩
  case round =>
    obtain ⟨j, hj, rfl, hJ, hK, hF⟩ := hrel
    by_cases hlt : j < L.length
    · obtain ⟨gb, rfl, hgb⟩ := HA.out (by intro h; rw [h] at hlt; exact absurd hlt (by simp))
      have hrow := hK.out.row gb _ _ hgb
      obtain ⟨p, hp⟩ : ∃ p, p = L[j] := ⟨_, rfl⟩
      have hc := row_part hrow hlt
      rw [← hp] at hc
      obtain ⟨c0, c1, c2⟩ := hc
      obtain ⟨fp, hfp⟩ : ∃ fp, fp = fnP p.wh := ⟨_, rfl⟩
      have hJ1 : J (L.take j) (wr.alloc (.cells #[.func (.func (fnP p.wh)) #[] #[], .int .i64 p.lo, .int .i64 p.hi] 186)) := own_belowW HJ.out ((Below.refl _ _).alloc (Nat.le_refl _) _) hJ.out
      obtain ⟨fn5, tmps5, assign5, body5, hy5, hR5⟩ := HY.out (L.take j) p _ hJ1 (by simp; omega)
      dsimp only [encP, partV] at hy5
      rw [← hfp] at hy5 hR5 c0
      have i3 : (j : Int) < (L.length : Int) := by omega
      have i4 : (0 : Int) ≤ (j : Int) := by omega
      have HR5 := Lib.hid hR5
      have HP := Lib.hid hp
      clear hrow hp hfp hJ1 hgb hR5
      gi_wp2
      refine HR5.out.mono ?_
      rintro e W5 (⟨rfl, hJ5, hk5, hf5⟩ | ⟨rfl, hx5, hf5⟩)
      · gi_wp2
        have HJ2 : Hid (J (L.take (j + 1)) W5) := by
          show J _ _
          rw [List.take_succ_eq_append_getElem hlt, ← HP.out]
          exact hJ5
        have HK2 : Hid (KT n₀ 186 w W5) := hK.out.trans ((KT.alloc _ (Nat.le_trans hn₀ (Nat.le_trans HB.out.size hK.out.low.size))).trans hk5)
        have HF2 : Hid (KeepsFrom W.heap.size w W5) := hF.out.trans ((KeepsFrom.of_grownBy (World.grownBy_alloc wr _ none) (fun j e => by cases e)).trans hf5)
        go_roundw
        case rel => exact ⟨j + 1, by omega, by go_num, HJ2, HK2, HF2⟩
        case measure => simp [intOf]; omega
      · gi_wp2
        refine bodyPost_ret (results_none rfl _ _ _) rfl ⟨⟨_, rfl⟩, .inr ⟨L.take j ++ [p], ?_, hx5⟩⟩
        rw [HP.out, ← List.take_succ_eq_append_getElem hlt]
        exact List.take_prefix _ _
    · obtain rfl : j = L.length := by omega
      gi_wp2
      go_end0
      refine ⟨⟨_, rfl⟩, .inl ⟨_, rfl, ?_⟩⟩
      have := hJ.out
      rwa [List.take_length] at this
theorem parts_seq (n : Nat) (hn : 3 ≤ n) (B3 B4 B5 n₀ : Nat) (k : Nat) (hk : k < 14) (V S : Int) (v1 : 1 ≤ V) (v2 : V ≤ 32) (s1 : 1 ≤ S) (s2 : S ≤ 32) (w : World) (hn₀ : n₀ ≤ w.heap.size) (b3 : _root_.Go.Boxed w B3 5 (.int .u8 k)) (b4 : _root_.Go.Boxed w B4 3 (.int .i64 V)) (b5 : _root_.Go.Boxed w B5 3 (.int .i64 S)) :
    SeqO Fence.wide n Tryz.prog 130 #[.pointer (some ⟨B5, 0, none⟩), .pointer (some ⟨B4, 0, none⟩), .pointer (some ⟨B3, 0, none⟩)] encP (KT n₀ 186) (fun ys => ys = partsK k V S) (fun ys => ys <+: partsK k V S) 2 w := fun l J Jx W hW hJ hJx hY h0 =>
  parts_in n hn l B3 B4 B5 n₀ k hk V S v1 v2 s1 s2 J Jx W hY (Nat.le_trans hn₀ hW.size) hJ ((hW.block _ b3.lt).trans b3) ((hW.block _ b4.lt).trans b4) ((hW.block _ b5.lt).trans b5) h0
theorem parts_call (F : Fence) (n : Nat) (hf : F.fn 117) (hro : F.round = none) (k : Nat) (V S : Int) (w : World) :
    CallsIn F n Tryz.prog 117 #[.int .u8 k, .int .i64 V, .int .i64 S] w fun e w' => e = .returned (.func (.func 130) #[] #[.pointer (some ⟨w.heap.size + 1 + 1, 0, none⟩), .pointer (some ⟨w.heap.size + 1, 0, none⟩), .pointer (some ⟨w.heap.size, 0, none⟩)]) ∧ w' = ((w.alloc (.cells #[.int .u8 k] 5)).alloc (.cells #[.int .i64 V] 3)).alloc (.cells #[.int .i64 S] 3) := by
  refine callsIn_of_wp Tryz.func117 rfl hf ?_ hro
  simp only [Tryz.ntmps117, List.size_toArray, List.length_cons, List.length_nil, Nat.reduceAdd, Nat.reduceSub, Array.replicate_succ, Array.replicate_zero, List.push_toArray, List.append_toArray, List.nil_append, List.cons_append]
  gi_wp2
  go_ret
  exact ⟨rfl, rfl⟩
end Go.Proofs.YteigglhhnemngaaGreatDoor
namespace Go.Proofs.YteigglhhnemngaaGreatDoor
set_option maxRecDepth 100000
open Go.RowKit Go.Shelf
set_option linter.unusedVariables false
structure EvOk (e : Ev) : Prop where
  k0 : 0 ≤ e.kd
  k1 : e.kd ≤ 255
  w0 : 0 ≤ e.why
  w1 : e.why ≤ 255
  t0 : -9223372036854775808 ≤ e.th
  t1 : e.th ≤ 9223372036854775807
  x0 : -9223372036854775808 ≤ e.tx
  x1 : e.tx ≤ 9223372036854775807
  p0 : -9223372036854775808 ≤ e.pl
  p1 : e.pl ≤ 9223372036854775807
  v0 : -9223372036854775808 ≤ e.v
  v1 : e.v ≤ 9223372036854775807
  y0 : -9223372036854775808 ≤ e.x
  y1 : e.x ≤ 9223372036854775807
def numV (c : Nat → Int) : Value := .agg #[.int .i64 (c 0), .int .i64 (c 1), .int .i64 (c 2), .int .i64 (c 3), .int .i64 (c 4)]
def numR (c : Nat → Int) : Array Value := #[.int .i64 (c 0), .int .i64 (c 1), .int .i64 (c 2), .int .i64 (c 3), .int .i64 (c 4)]
theorem of_any (e : Ev) (ok : EvOk e) (w : World) :
    Calls Tryz.prog 116 #[evV e] w fun r w' => r = .returned (numV (numC e)) ∧ Below w.heap.size w w' := by
  have h : numV (numC e) = .agg #[.int .i64 e.tx, .int .i64 e.pl, .int .i64 e.v, .int .i64 e.x, .int .i64 e.why] := by simp [numV, numC]
  rw [h]
  have i1 := ok.w0
  have i2 := ok.w1
  clear ok h
  obtain ⟨kd, th, tx, pl, v, x, why⟩ := e
  unfold evV
  simp only at i1 i2 ⊢
  go_enter Tryz.func116, Tryz.ntmps116
  go_wp2
  exact bodyPost_ret (v := .agg #[.int .i64 tx, .int .i64 pl, .int .i64 v, .int .i64 x, .int .i64 why]) (by simp [results, Tryz.results116, go_sem]) rfl ⟨rfl, by go_grown⟩
theorem meth_any (k : Nat) (hk : k < 5) (g : Nat) (w : World) :
    Calls Tryz.prog (fnP k) #[.pointer (some ⟨g, 0, none⟩)] w fun r w' => r = .returned (.pointer (some ⟨g, k, none⟩)) ∧ w = w' := by
  match k, hk with
  | 0, _ =>
    show Calls Tryz.prog 131 _ _ _
    go_enter Tryz.func131, Tryz.ntmps131
    go_wp2
    go_ret
    exact ⟨rfl, rfl⟩
  | 1, _ =>
    show Calls Tryz.prog 133 _ _ _
    go_enter Tryz.func133, Tryz.ntmps133
    go_wp2
    go_ret
    exact ⟨rfl, rfl⟩
  | 2, _ =>
    show Calls Tryz.prog 132 _ _ _
    go_enter Tryz.func132, Tryz.ntmps132
    go_wp2
    go_ret
    exact ⟨rfl, rfl⟩
  | 3, _ =>
    show Calls Tryz.prog 134 _ _ _
    go_enter Tryz.func134, Tryz.ntmps134
    go_wp2
    go_ret
    exact ⟨rfl, rfl⟩
  | 4, _ =>
    show Calls Tryz.prog 135 _ _ _
    go_enter Tryz.func135, Tryz.ntmps135
    go_wp2
    go_ret
    exact ⟨rfl, rfl⟩
  | k + 5, h => exact absurd h (by omega)
set_option maxHeartbeats 1000000 in
theorem may_no1 (e : Ev) (T V S : Int) (h : sizesB T V S = false) (w : World) :
    Calls Tryz.prog 86 #[evV e, .int .i64 T, .int .i64 V, .int .i64 S] w fun r w' => r = .returned (.bool false) ∧ Below w.heap.size w w' := by
  have H1 := Lib.hid (fun w1 => sizes_any T V S w1)
  rw [h] at H1
  clear h
  unfold evV
  go_enter Tryz.func86, Tryz.ntmps86
  go_wp2_with fail
  refine (H1.out _).mono ?_
  rintro _ w1 ⟨rfl, rfl⟩
  go_wp2_with fail
  refine bodyPost_ret (v := .bool false) (by simp [results, Tryz.results86, go_sem]) rfl ⟨rfl, ?_⟩
  go_grown
theorem sizes_iff {T V S : Int} (h : sizesB T V S = true) : (1 ≤ T ∧ T ≤ 6) ∧ (1 ≤ V ∧ V ≤ 32) ∧ 1 ≤ S ∧ S ≤ V := by simpa [sizesB, and_assoc] using h
set_option maxHeartbeats 1000000 in
theorem may_no2 (e : Ev) (T V S : Int) (h : sizesB T V S = true) (h2 : (decide (0 ≤ e.th) && decide (e.th ≤ T - 1)) = false) (w : World) :
    Calls Tryz.prog 86 #[evV e, .int .i64 T, .int .i64 V, .int .i64 S] w fun r w' => r = .returned (.bool false) ∧ Below w.heap.size w w' := by
  have H1 := Lib.hid (fun w1 => sizes_any T V S w1)
  have H2 := Lib.hid (fun w1 => within_any e.th 0 (T - 1) w1)
  rw [h] at H1
  rw [h2] at H2
  have hs := sizes_iff h
  have t1 : 1 ≤ T := by omega
  have t2 : T ≤ 6 := by omega
  clear h h2 hs
  unfold evV
  go_enter Tryz.func86, Tryz.ntmps86
  go_wp2_with fail
  refine (H1.out _).mono ?_
  rintro _ w1 ⟨rfl, rfl⟩
  go_wp2_with fail
  refine (H2.out _).mono ?_
  rintro _ w1 ⟨rfl, rfl⟩
  go_wp2_with fail
  refine bodyPost_ret (v := .bool false) (by simp [results, Tryz.results86, go_sem]) rfl ⟨rfl, ?_⟩
  go_grown
set_option maxHeartbeats 1000000 in
theorem may_no3 (e : Ev) (ok : EvOk e) (T V S : Int) (h : sizesB T V S = true) (h2 : (decide (0 ≤ e.th) && decide (e.th ≤ T - 1)) = true) (h3 : ¬ (1 ≤ e.kd ∧ e.kd ≤ 13)) (w : World) (he : Ek w) :
    Calls Tryz.prog 86 #[evV e, .int .i64 T, .int .i64 V, .int .i64 S] w fun r w' => r = .returned (.bool false) ∧ Below w.heap.size w w' := by
  have H1 := Lib.hid (fun w1 => sizes_any T V S w1)
  have H2 := Lib.hid (fun w1 => within_any e.th 0 (T - 1) w1)
  rw [h] at H1
  rw [h2] at H2
  have hs := sizes_iff h
  have t1 : 1 ≤ T := by omega
  have t2 : T ≤ 6 := by omega
  have hnm : nmL e.kd.toNat = [] := by
    unfold nmL
    have := ok.k0
    split <;> first | omega | rfl
  have H3 : Hid (∀ w1, Below w.heap.size w w1 → Calls Tryz.prog 114 #[.int .u8 e.kd] w1 fun r w' => r = .returned (.string ⟨#[]⟩) ∧ w1 = w') := fun w1 b => by
    have := name_any e.kd.toNat (by have := ok.k0; have := ok.k1; omega) w1 (he.below b)
    rw [show nmV e.kd.toNat = .string ⟨#[]⟩ by unfold nmV; rw [hnm]; rfl, show ((e.kd.toNat : Nat) : Int) = e.kd by have := ok.k0; omega] at this
    exact this
  clear h h2 hs h3 hnm he ok
  unfold evV
  go_enter Tryz.func86, Tryz.ntmps86
  go_wp2_with fail
  refine (H1.out _).mono ?_
  rintro _ w1 ⟨rfl, rfl⟩
  go_wp2_with fail
  refine (H2.out _).mono ?_
  rintro _ w1 ⟨rfl, rfl⟩
  go_wp2_with fail
  refine (H3.out _ (by go_grown)).mono ?_
  rintro _ w1 ⟨rfl, rfl⟩
  go_wp2_with fail
  refine bodyPost_ret (v := .bool false) (by simp [results, Tryz.results86, go_sem]) rfl ⟨rfl, ?_⟩
  go_grown
theorem nm_ne {k : Nat} (h1 : 1 ≤ k) (h2 : k ≤ 13) : (bsW (nmL k)).toList.isEmpty = false := by
  rw [ByteArray.toList_eq, bsW_list]
  have : k = 1 ∨ k = 2 ∨ k = 3 ∨ k = 4 ∨ k = 5 ∨ k = 6 ∨ k = 7 ∨ k = 8 ∨ k = 9 ∨ k = 10 ∨ k = 11 ∨ k = 12 ∨ k = 13 := by omega
  rcases this with rfl | rfl | rfl | rfl | rfl | rfl | rfl | rfl | rfl | rfl | rfl | rfl | rfl <;> rfl
set_option maxHeartbeats 1000000 in
theorem may_no4 (e : Ev) (ok : EvOk e) (T V S : Int) (h : sizesB T V S = true) (h2 : (decide (0 ≤ e.th) && decide (e.th ≤ T - 1)) = true) (h3 : 1 ≤ e.kd ∧ e.kd ≤ 13) (h4 : fullB e.kd e.why = true) (h5 : (e.pl != 0) = true) (w : World) (he : Ek w) :
    Calls Tryz.prog 86 #[evV e, .int .i64 T, .int .i64 V, .int .i64 S] w fun r w' => r = .returned (.bool false) ∧ Below w.heap.size w w' := by
  have H1 := Lib.hid (fun w1 => sizes_any T V S w1)
  have H2 := Lib.hid (fun w1 => within_any e.th 0 (T - 1) w1)
  have H4 := Lib.hid (fun w1 => full_any e w1)
  rw [h] at H1
  rw [h2] at H2
  rw [h4] at H4
  have hs := sizes_iff h
  have t1 : 1 ≤ T := by omega
  have t2 : T ≤ 6 := by omega
  obtain ⟨b, hb⟩ : ∃ b, b = bsW (nmL e.kd.toNat) := ⟨_, rfl⟩
  have hbe : b.toList.isEmpty = false := by rw [hb]; exact nm_ne (by omega) (by omega)
  have H3 : Hid (∀ w1, Below w.heap.size w w1 → Calls Tryz.prog 114 #[.int .u8 e.kd] w1 fun r w' => r = .returned (.string b) ∧ w1 = w') := fun w1 bb => by
    have := name_any e.kd.toNat (by omega) w1 (he.below bb)
    rw [show nmV e.kd.toNat = .string b by unfold nmV; rw [hb], show ((e.kd.toNat : Nat) : Int) = e.kd by omega] at this
    exact this
  clear h h2 hs h3 hb he ok h4
  unfold evV at H4 ⊢
  go_enter Tryz.func86, Tryz.ntmps86
  go_wp2_with fail
  refine (H1.out _).mono ?_
  rintro _ w1 ⟨rfl, rfl⟩
  go_wp2_with fail
  refine (H2.out _).mono ?_
  rintro _ w1 ⟨rfl, rfl⟩
  go_wp2_with fail
  refine (H3.out _ (by go_grown)).mono ?_
  rintro _ w1 ⟨rfl, rfl⟩
  go_wp2_with fail
  refine (H4.out _).mono ?_
  rintro _ w1 ⟨rfl, b1⟩
  obtain ⟨W0, hW0⟩ : ∃ W0, W0 = (w.alloc (.cells #[.int .u8 e.kd, .int .i64 e.th, .int .i64 e.tx, .int .i64 e.pl, .int .i64 e.v, .int .i64 e.x, .int .u8 e.why] 50)).alloc (.cells #[.bool false] 4) := ⟨_, rfl⟩
  have hz0 : W0.heap.size = w.heap.size + 1 + 1 := by rw [hW0]; simp
  have c3 : w1.cell? ⟨w.heap.size, 3, none⟩ = some (.int .i64 e.pl) := by
    rw [b1.cell (p := ⟨w.heap.size, 3, none⟩) (by rw [← hW0, hz0]; show w.heap.size < _; omega), ← hW0]
    rw [hW0]
    simp
  have r0 : w1.cell? ⟨w.heap.size + 1, 0, none⟩ = some (.bool false) := by
    rw [b1.cell (p := ⟨w.heap.size + 1, 0, none⟩) (by rw [← hW0, hz0]; show w.heap.size + 1 < _; omega)]
    simp
  have f0 : w1.frozen? ⟨w.heap.size + 1, 0, none⟩ = false := by
    rw [b1.frozen (p := ⟨w.heap.size + 1, 0, none⟩) (by rw [← hW0, hz0]; show w.heap.size + 1 < _; omega)]
    simp
  have B1 : Hid (Below w.heap.size w w1) := by
    refine Lib.hid (Below.trans (B := w.heap.size) ?_ (b1.mono (by simp; omega)))
    go_grown
  clear b1 hW0 hz0
  go_wp2_with fail
  refine bodyPost_ret (v := .bool false) (by simp [results, Tryz.results86, go_sem, r0]) rfl ⟨rfl, ?_⟩
  exact B1.out.setCell (p := ⟨w.heap.size + 1, 0, none⟩) (by show w.heap.size ≤ w.heap.size + 1; omega) _
end Go.Proofs.YteigglhhnemngaaGreatDoor
namespace Go.Proofs.YteigglhhnemngaaGreatDoor
set_option maxRecDepth 100000
open Go.RowKit
set_option linter.unusedVariables false
def noDef (o : Oper) : Bool := match o.op with
  | .defer _ => false
  | _ => true
theorem noDef_of {o : Oper} (h : noDef o = true) : ∀ c, o.op ≠ .defer c := fun c e => by unfold noDef at h; rw [e] at h; cases h
section
variable {F : Fence} {l n : Nat} {P : Program} {ops : Array Oper} {Q : Exit → Act → World → Prop}
theorem op_round {o : Oper} {a : Act} {w : World} {K : Act → World → Prop} (hF : F.round = none) (hd : ∀ c, o.op ≠ .defer c) (h : o.wpIn F n P a w K Q) : o.wpIn (F.inRound l) n P a w K Q := by
  obtain ⟨h1, h2⟩ := h
  refine ⟨h1, ?_⟩
  rw [Oper.semAt_eq _ _ _ hd] at h2 ⊢
  exact h2
theorem any_round (hF : F.round = none) (hd : ops.all noDef = true) : ∀ (fuel : Nat) (listed : Array Bool) (a : Act) (w : World), wpAnyIn F n P .any ops Q fuel listed a w → wpAnyIn (F.inRound l) n P .any ops Q fuel listed a w := by
  intro fuel
  induction fuel with
  | zero => intro _ _ _ h; exact h
  | succ fuel ih =>
    intro listed a w h
    refine ⟨h.1, fun i hi => ?_⟩
    have hs := wpOpIn_mono (fun a' w' h' => ih _ a' w' h') (h.2 i hi)
    unfold wpOpIn at hs ⊢
    cases ho : ops[i]? with
    | none => rw [ho] at hs; exact hs
    | some o =>
      rw [ho] at hs
      dsimp only at hs ⊢
      by_cases hw : Region.wanted o (yielded ops a.tmps) = true
      · rw [if_pos hw] at hs ⊢
        exact op_round hF (noDef_of (Array.all_eq_true'.1 hd o (Array.mem_of_getElem? ho))) hs
      · rw [if_neg hw] at hs ⊢
        exact hs
theorem quiet_round {C : World → Prop} {R : Act → Prop} : ∀ (r : List Oper) (a : Act), wpQuietIn (F.inRound l) n P ops C R r a → wpQuietIn F n P ops C R r a := by
  intro r
  induction r with
  | nil => intro a h; exact h
  | cons o r ih =>
    intro a h
    obtain ⟨h1, h2⟩ := h
    refine ⟨h1, ?_⟩
    by_cases hw : Region.wanted o (yielded ops a.tmps) = true
    · rw [if_pos hw] at h2 ⊢
      obtain ⟨v, h3, h4⟩ := h2
      refine ⟨v, fun w hc => ?_, ih _ h4⟩
      have h5 := h3 w hc
      unfold Oper.quietAtIn at h5 ⊢
      generalize (execOp a.eval o).run P w = res at h5 ⊢
      cases res with
      | halt x w' => exact h5
      | ok x w' => cases x <;> exact h5
    · rw [if_neg hw] at h2 ⊢
      exact ih _ h2
theorem wpIn_region_quietR {id : Nat} {a : Act} {w : World} {r : List Oper} (hF : F.round = none) (hro : r.toArray.all noDef = true) (hm : P.follows .mixedOrders = true) (hB : Region.lexB .any r.toArray = true)
    (h : wpQuietIn (F.inRound l) n P r.toArray (fun w' => ∃ n, w' = w.drewN n) (fun a' => ∀ w', (∃ n, w' = w.drewN n) → Q .normal a' w') r a) : (Code.region id r.toArray true).wpIn (F.inRound l) n P Q a w := by
  have hq : wpQuietIn F n P r.toArray (fun w' => ∃ n, w' = w.drewN n) (fun a' => ∀ w', (∃ n, w' = w.drewN n) → Q .normal a' w') r a := quiet_round r a h
  rw [Region.lexB, Bool.and_eq_true] at hB
  have hx : wpAnyQIn F n P .any r.toArray (fun w' => ∃ n, w' = w.drewN n) (fun a' => ∀ w', (∃ n, w' = w.drewN n) → Q .normal a' w') r.length (Array.replicate r.toArray.size false) a :=
    wpAnyQIn_lex hB.1 r 0 _ a (fun j => by simp) (by simpa using hB.2) hq
  have hy := wpAnyIn_of_quiet (Q' := Q) hF (fun a' w' hw' hk => hk w' hw') _ _ _ _ ⟨1, rfl⟩ hx
  have hz := any_round (l := l) hF hro _ _ _ _ hy
  refine wpIn_region_any hm ?_
  rw [List.size_toArray] at hz ⊢
  exact hz
end
end Go.Proofs.YteigglhhnemngaaGreatDoor
