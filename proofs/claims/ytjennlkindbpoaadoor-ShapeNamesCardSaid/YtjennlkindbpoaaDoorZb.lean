/-
  SEVERAL TEXTS IN ONE (a claim has sixty files at most): Snb, Snc, Snd: the head of each stands ahead of it. No condition but theirs.
-/
import Derived.Test.YtjennlkindbpoaaDoorZn
/-
  FOR ShapeNames: its regions 16, 18, 20, 22, 24, by kinds. Laid by gen/gen_sn.py. Conditions: CheckC.
-/
namespace Go.Proofs.YtjennlkindbpoaaDoor
set_option maxRecDepth 100000
open Go.RowKit Go.Deep
set_option linter.unusedVariables false

noncomputable def sn16_ops : Array Oper := opsW Tryd.f3 16
def sn16_ds : List Nat := [110, 111, 112, 113, 114, 115, 116, 117, 118, 119, 120, 121, 122, 123, 124, 125, 126, 127, 128, 129, 130, 131, 132, 133, 134, 135, 136, 137, 138, 139, 140, 141, 142, 143, 144, 145, 146, 147, 148, 149, 150, 151, 152, 153, 154]
def sn16_S : Nat → Value → World → Prop
  | 0, v, w => v = evV ⟨1, 0, 0, 0, 0, 0, 0⟩
  | 1, v, w => v = evV ⟨1, 0, 0, 0, 0, 0, 0⟩
  | 2, v, w => SlA [⟨1, 0, 0, 0, 0, 0, 0⟩, ⟨1, 0, 0, 0, 0, 0, 0⟩] (v) w
  | 3, v, w => v = .bool true
  | 4, v, w => v = .bool false
  | 5, v, w => v = .bool false
  | 6, v, w => v = evV ⟨1, 0, 1, 0, 0, 0, 0⟩
  | 7, v, w => SlA [⟨1, 0, 1, 0, 0, 0, 0⟩] (v) w
  | 8, v, w => v = .bool true
  | 9, v, w => v = .bool false
  | 10, v, w => v = .bool false
  | 11, v, w => v = .bool false
  | 12, v, w => v = evV ⟨1, 0, 0, 0, 0, 0, 0⟩
  | 13, v, w => v = evV ⟨7, 0, 0, 0, 0, 0, 0⟩
  | 14, v, w => v = evV ⟨1, 0, 1, 0, 0, 0, 0⟩
  | 15, v, w => SlA [⟨1, 0, 0, 0, 0, 0, 0⟩, ⟨7, 0, 0, 0, 0, 0, 0⟩, ⟨1, 0, 1, 0, 0, 0, 0⟩] (v) w
  | 16, v, w => TrA 3 4 2 [⟨1, 0, 0, 0, 0, 0, 0⟩, ⟨7, 0, 0, 0, 0, 0, 0⟩, ⟨1, 0, 1, 0, 0, 0, 0⟩] (v) w
  | 17, v, w => v = .bool true
  | 18, v, w => v = .bool false
  | 19, v, w => v = .bool false
  | 20, v, w => v = .bool false
  | 21, v, w => v = evV ⟨1, 0, 0, 0, 0, 0, 0⟩
  | 22, v, w => v = evV ⟨7, 0, 0, 0, 0, 0, 0⟩
  | 23, v, w => v = evV ⟨1, 0, 0, 0, 0, 0, 0⟩
  | 24, v, w => SlA [⟨1, 0, 0, 0, 0, 0, 0⟩, ⟨7, 0, 0, 0, 0, 0, 0⟩, ⟨1, 0, 0, 0, 0, 0, 0⟩] (v) w
  | 25, v, w => v = .bool true
  | 26, v, w => v = .bool false
  | 27, v, w => v = .bool false
  | 28, v, w => v = .bool false
  | 29, v, w => v = evV ⟨1, 0, 0, 0, 3, 0, 0⟩
  | 30, v, w => v = evV ⟨1, 0, 0, 0, 2, 0, 0⟩
  | 31, v, w => v = evV ⟨1, 1, 0, 0, 2, 0, 0⟩
  | 32, v, w => SlA [⟨1, 0, 0, 0, 3, 0, 0⟩, ⟨1, 1, 0, 0, 2, 0, 0⟩] (v) w
  | 33, v, w => v = .bool true
  | 34, v, w => v = .bool false
  | 35, v, w => v = .bool false
  | 36, v, w => v = .bool false
  | 37, v, w => v = evV ⟨1, 0, 0, 0, 3, 0, 0⟩
  | 38, v, w => v = evV ⟨1, 0, 0, 0, 3, 0, 0⟩
  | 39, v, w => v = evV ⟨1, 1, 0, 0, 3, 0, 0⟩
  | 40, v, w => SlA [⟨1, 0, 0, 0, 3, 0, 0⟩, ⟨1, 1, 0, 0, 3, 0, 0⟩] (v) w
  | 41, v, w => TrA 3 4 2 [⟨1, 0, 0, 0, 3, 0, 0⟩, ⟨1, 1, 0, 0, 3, 0, 0⟩] (v) w
  | 42, v, w => v = .bool true
  | 43, v, w => v = .bool false
  | 44, v, w => v = .bool false
  | _ + 45, _, _ => False
theorem sn16_mono (i : Nat) (v : Value) (w w' : World) (b : Below w.heap.size w w') (h : sn16_S i v w) : sn16_S i v w' := by
  match i, h with
  | 0, h => exact h
  | 1, h => exact h
  | 2, h => exact SlA.stays h b
  | 3, h => exact h
  | 4, h => exact h
  | 5, h => exact h
  | 6, h => exact h
  | 7, h => exact SlA.stays h b
  | 8, h => exact h
  | 9, h => exact h
  | 10, h => exact h
  | 11, h => exact h
  | 12, h => exact h
  | 13, h => exact h
  | 14, h => exact h
  | 15, h => exact SlA.stays h b
  | 16, h => exact TrA.stays h b
  | 17, h => exact h
  | 18, h => exact h
  | 19, h => exact h
  | 20, h => exact h
  | 21, h => exact h
  | 22, h => exact h
  | 23, h => exact h
  | 24, h => exact SlA.stays h b
  | 25, h => exact h
  | 26, h => exact h
  | 27, h => exact h
  | 28, h => exact h
  | 29, h => exact h
  | 30, h => exact h
  | 31, h => exact h
  | 32, h => exact SlA.stays h b
  | 33, h => exact h
  | 34, h => exact h
  | 35, h => exact h
  | 36, h => exact h
  | 37, h => exact h
  | 38, h => exact h
  | 39, h => exact h
  | 40, h => exact SlA.stays h b
  | 41, h => exact TrA.stays h b
  | 42, h => exact h
  | 43, h => exact h
  | 44, h => exact h
set_option maxRecDepth 100000 in
set_option maxHeartbeats 4000000 in
theorem sn16 {Tb : World → Prop} (HC : CheckC Tb) {id : Nat} {ops : Array Oper} (hops : ops = sn16_ops) (T0 : Array Value) (hsz : T0.size = 726) (W : World) (ht : Tb W) (p6 : PtE ⟨1, 0, 0, 0, 0, 0, 0⟩ (T0[6]?.getD undef) W) (p10 : PtE ⟨1, 0, 1, 0, 0, 0, 0⟩ (T0[10]?.getD undef) W) {Q : Exit → Act → World → Prop}
    (hend : ∀ (T : Array Value) (w : World), T.size = 726 → Below W.heap.size W w → (∀ x, x ∉ sn16_ds → T[x]? = T0[x]?) → T[154]?.getD undef = .bool false → Q .normal ⟨T, []⟩ w) : (Code.region id ops true).wp Tryd.prog Q ⟨T0, []⟩ W := by
  subst hops
  have hos : sn16_ops.size = 45 := by kernel_rfl
  have hga : (List.range 45).all (fun i => match sn16_ops[i]? with | some o => o.guard == ([none, none, none, none, none, none, some (5, false), some (5, false), some (5, false), some (5, false), none, none, some (11, false), some (11, false), some (11, false), some (11, false), some (11, false), some (11, false), some (11, false), none, none, some (20, false), some (20, false), some (20, false), some (20, false), some (20, false), some (20, false), none, none, some (28, false), some (28, false), some (28, false), some (28, false), some (28, false), some (28, false), none, none, some (36, false), some (36, false), some (36, false), some (36, false), some (36, false), some (36, false), some (36, false), none] : List (Option (Nat × Bool))).getD i none | none => false) = true := by kernel_rfl
  have q6 : ∀ (a : Act) (w : World), (∀ t, t ∉ sn16_ds → a.tmps[t]?.getD undef = T0[t]?.getD undef) → Below W.heap.size W w → PtE ⟨1, 0, 0, 0, 0, 0, 0⟩ (a.tmps[6]?.getD undef) w := fun a w hT hb => by rw [hT 6 (by decide)]; exact PtE.stays p6 hb
  have q10 : ∀ (a : Act) (w : World), (∀ t, t ∉ sn16_ds → a.tmps[t]?.getD undef = T0[t]?.getD undef) → Below W.heap.size W w → PtE ⟨1, 0, 1, 0, 0, 0, 0⟩ (a.tmps[10]?.getD undef) w := fun a w hT hb => by rw [hT 10 (by decide)]; exact PtE.stays p10 hb
  have hlt : ∀ x ∈ sn16_ds, x < T0.size := fun x hx => by
    have hall : (sn16_ds.all fun d => decide (d < 726)) = true := by decide
    have := List.all_eq_true.1 hall x hx
    simp only [decide_eq_true_eq] at this
    omega
  refine wp_region_kinds3 sn16_S sn16_ds W T0 (by decide) hlt (by kernel_rfl) (by kernel_rfl) (fun i o j want ho hgd => ?_) sn16_mono ?_ ?_
  · have hi : i < 45 := by rw [← hos]; exact (Array.getElem?_eq_some_iff.1 ho).1
    have h1 := List.all_eq_true.1 hga i (by simpa using hi)
    rw [ho] at h1
    simp only [hgd, beq_iff_eq] at h1
    match i, hi with
    | 0, _ => cases h1
    | 1, _ => cases h1
    | 2, _ => cases h1
    | 3, _ => cases h1
    | 4, _ => cases h1
    | 5, _ => cases h1
    | 6, _ => obtain ⟨rfl, rfl⟩ := Prod.mk.inj (Option.some.inj h1); exact fun v w h => h
    | 7, _ => obtain ⟨rfl, rfl⟩ := Prod.mk.inj (Option.some.inj h1); exact fun v w h => h
    | 8, _ => obtain ⟨rfl, rfl⟩ := Prod.mk.inj (Option.some.inj h1); exact fun v w h => h
    | 9, _ => obtain ⟨rfl, rfl⟩ := Prod.mk.inj (Option.some.inj h1); exact fun v w h => h
    | 10, _ => cases h1
    | 11, _ => cases h1
    | 12, _ => obtain ⟨rfl, rfl⟩ := Prod.mk.inj (Option.some.inj h1); exact fun v w h => h
    | 13, _ => obtain ⟨rfl, rfl⟩ := Prod.mk.inj (Option.some.inj h1); exact fun v w h => h
    | 14, _ => obtain ⟨rfl, rfl⟩ := Prod.mk.inj (Option.some.inj h1); exact fun v w h => h
    | 15, _ => obtain ⟨rfl, rfl⟩ := Prod.mk.inj (Option.some.inj h1); exact fun v w h => h
    | 16, _ => obtain ⟨rfl, rfl⟩ := Prod.mk.inj (Option.some.inj h1); exact fun v w h => h
    | 17, _ => obtain ⟨rfl, rfl⟩ := Prod.mk.inj (Option.some.inj h1); exact fun v w h => h
    | 18, _ => obtain ⟨rfl, rfl⟩ := Prod.mk.inj (Option.some.inj h1); exact fun v w h => h
    | 19, _ => cases h1
    | 20, _ => cases h1
    | 21, _ => obtain ⟨rfl, rfl⟩ := Prod.mk.inj (Option.some.inj h1); exact fun v w h => h
    | 22, _ => obtain ⟨rfl, rfl⟩ := Prod.mk.inj (Option.some.inj h1); exact fun v w h => h
    | 23, _ => obtain ⟨rfl, rfl⟩ := Prod.mk.inj (Option.some.inj h1); exact fun v w h => h
    | 24, _ => obtain ⟨rfl, rfl⟩ := Prod.mk.inj (Option.some.inj h1); exact fun v w h => h
    | 25, _ => obtain ⟨rfl, rfl⟩ := Prod.mk.inj (Option.some.inj h1); exact fun v w h => h
    | 26, _ => obtain ⟨rfl, rfl⟩ := Prod.mk.inj (Option.some.inj h1); exact fun v w h => h
    | 27, _ => cases h1
    | 28, _ => cases h1
    | 29, _ => obtain ⟨rfl, rfl⟩ := Prod.mk.inj (Option.some.inj h1); exact fun v w h => h
    | 30, _ => obtain ⟨rfl, rfl⟩ := Prod.mk.inj (Option.some.inj h1); exact fun v w h => h
    | 31, _ => obtain ⟨rfl, rfl⟩ := Prod.mk.inj (Option.some.inj h1); exact fun v w h => h
    | 32, _ => obtain ⟨rfl, rfl⟩ := Prod.mk.inj (Option.some.inj h1); exact fun v w h => h
    | 33, _ => obtain ⟨rfl, rfl⟩ := Prod.mk.inj (Option.some.inj h1); exact fun v w h => h
    | 34, _ => obtain ⟨rfl, rfl⟩ := Prod.mk.inj (Option.some.inj h1); exact fun v w h => h
    | 35, _ => cases h1
    | 36, _ => cases h1
    | 37, _ => obtain ⟨rfl, rfl⟩ := Prod.mk.inj (Option.some.inj h1); exact fun v w h => h
    | 38, _ => obtain ⟨rfl, rfl⟩ := Prod.mk.inj (Option.some.inj h1); exact fun v w h => h
    | 39, _ => obtain ⟨rfl, rfl⟩ := Prod.mk.inj (Option.some.inj h1); exact fun v w h => h
    | 40, _ => obtain ⟨rfl, rfl⟩ := Prod.mk.inj (Option.some.inj h1); exact fun v w h => h
    | 41, _ => obtain ⟨rfl, rfl⟩ := Prod.mk.inj (Option.some.inj h1); exact fun v w h => h
    | 42, _ => obtain ⟨rfl, rfl⟩ := Prod.mk.inj (Option.some.inj h1); exact fun v w h => h
    | 43, _ => obtain ⟨rfl, rfl⟩ := Prod.mk.inj (Option.some.inj h1); exact fun v w h => h
    | 44, _ => cases h1
    | i + 45, h => exact absurd (show i + 45 < 45 from h) (by omega)
  · intro i o ho hi a w hT hW hb K hK
    match i, hi with
    | 0, _ =>
      exact n_load 6 (opAtW ho (by kernel_rfl)) (q6 a w hT hb) (hK _ _ (Below.refl _ _) rfl)
    | 1, _ =>
      exact n_load 6 (opAtW ho (by kernel_rfl)) (q6 a w hT hb) (hK _ _ (Below.refl _ _) rfl)
    | 2, _ =>
      have p110 : a.tmps[110]?.getD undef = evV ⟨1, 0, 0, 0, 0, 0, 0⟩ := (hW 0 (by kernel_rfl))
      have p111 : a.tmps[111]?.getD undef = evV ⟨1, 0, 0, 0, 0, 0, 0⟩ := (hW 1 (by kernel_rfl))
      exact n_slice [⟨1, 0, 0, 0, 0, 0, 0⟩, ⟨1, 0, 0, 0, 0, 0, 0⟩] #[(0, .tmp 110), (1, .tmp 111)] (opAtW ho (by kernel_rfl)) rfl (by kernel_rfl) (by decide) (by decide) (by simp [Act.eval, p110, p111]) (fun v w' hb' hs => hK v w' hb' hs)
    | 3, _ =>
      exact n_bad HC (HC.below W w ht hb) 112 true (opAtW ho (by kernel_rfl)) (hW 2 (by kernel_rfl)) (by decide) (by decide) (by kernel_rfl) (fun w' hb' => hK _ w' hb' rfl)
    | 4, _ =>
      exact u_notT 113 (opAtW ho (by kernel_rfl)) (hW 3 (by kernel_rfl)) (hK _ _ (Below.refl _ _) rfl)
    | 5, _ =>
      exact v_move 114 (opAtW ho (by kernel_rfl)) (hW 4 (by kernel_rfl)) (hK _ _ (Below.refl _ _) rfl)
    | 6, _ =>
      exact n_load 10 (opAtW ho (by kernel_rfl)) (q10 a w hT hb) (hK _ _ (Below.refl _ _) rfl)
    | 7, _ =>
      have p116 : a.tmps[116]?.getD undef = evV ⟨1, 0, 1, 0, 0, 0, 0⟩ := (hW 6 (by kernel_rfl))
      exact n_slice [⟨1, 0, 1, 0, 0, 0, 0⟩] #[(0, .tmp 116)] (opAtW ho (by kernel_rfl)) rfl (by kernel_rfl) (by decide) (by decide) (by simp [Act.eval, p116]) (fun v w' hb' hs => hK v w' hb' hs)
    | 8, _ =>
      exact n_bad HC (HC.below W w ht hb) 117 true (opAtW ho (by kernel_rfl)) (hW 7 (by kernel_rfl)) (by decide) (by decide) (by kernel_rfl) (fun w' hb' => hK _ w' hb' rfl)
    | 9, _ =>
      exact u_notT 118 (opAtW ho (by kernel_rfl)) (hW 8 (by kernel_rfl)) (hK _ _ (Below.refl _ _) rfl)
    | 10, _ =>
      exact v_orF 115 119 (opAtW ho (by kernel_rfl)) (hW 5 (by kernel_rfl)) (hW 9 (by kernel_rfl)) (hK _ _ (Below.refl _ _) rfl)
    | 11, _ =>
      exact v_move 120 (opAtW ho (by kernel_rfl)) (hW 10 (by kernel_rfl)) (hK _ _ (Below.refl _ _) rfl)
    | 12, _ =>
      exact n_load 6 (opAtW ho (by kernel_rfl)) (q6 a w hT hb) (hK _ _ (Below.refl _ _) rfl)
    | 13, _ =>
      exact o_ev (opAtW ho (by kernel_rfl)) (ev_any (7) (0) (0) w) (fun w' hb' => hK _ w' hb' rfl)
    | 14, _ =>
      exact n_load 10 (opAtW ho (by kernel_rfl)) (q10 a w hT hb) (hK _ _ (Below.refl _ _) rfl)
    | 15, _ =>
      have p122 : a.tmps[122]?.getD undef = evV ⟨1, 0, 0, 0, 0, 0, 0⟩ := (hW 12 (by kernel_rfl))
      have p123 : a.tmps[123]?.getD undef = evV ⟨7, 0, 0, 0, 0, 0, 0⟩ := (hW 13 (by kernel_rfl))
      have p124 : a.tmps[124]?.getD undef = evV ⟨1, 0, 1, 0, 0, 0, 0⟩ := (hW 14 (by kernel_rfl))
      exact n_slice [⟨1, 0, 0, 0, 0, 0, 0⟩, ⟨7, 0, 0, 0, 0, 0, 0⟩, ⟨1, 0, 1, 0, 0, 0, 0⟩] #[(0, .tmp 122), (1, .tmp 123), (2, .tmp 124)] (opAtW ho (by kernel_rfl)) rfl (by kernel_rfl) (by decide) (by decide) (by simp [Act.eval, p122, p123, p124]) (fun v w' hb' hs => hK v w' hb' hs)
    | 16, _ =>
      exact n_over 125 (opAtW ho (by kernel_rfl)) (hW 15 (by kernel_rfl)) (fun u w' hb' hs => hK u w' hb' hs)
    | 17, _ =>
      exact n_fine HC (HC.below W w ht hb) 126 true (opAtW ho (by kernel_rfl)) (hW 16 (by kernel_rfl)) (by decide) (by decide) (by decide) (by decide) (by kernel_rfl) (fun w' hb' => hK _ w' hb' rfl)
    | 18, _ =>
      exact u_notT 127 (opAtW ho (by kernel_rfl)) (hW 17 (by kernel_rfl)) (hK _ _ (Below.refl _ _) rfl)
    | 19, _ =>
      exact v_orF 121 128 (opAtW ho (by kernel_rfl)) (hW 11 (by kernel_rfl)) (hW 18 (by kernel_rfl)) (hK _ _ (Below.refl _ _) rfl)
    | 20, _ =>
      exact v_move 129 (opAtW ho (by kernel_rfl)) (hW 19 (by kernel_rfl)) (hK _ _ (Below.refl _ _) rfl)
    | 21, _ =>
      exact n_load 6 (opAtW ho (by kernel_rfl)) (q6 a w hT hb) (hK _ _ (Below.refl _ _) rfl)
    | 22, _ =>
      exact o_ev (opAtW ho (by kernel_rfl)) (ev_any (7) (0) (0) w) (fun w' hb' => hK _ w' hb' rfl)
    | 23, _ =>
      exact n_load 6 (opAtW ho (by kernel_rfl)) (q6 a w hT hb) (hK _ _ (Below.refl _ _) rfl)
    | 24, _ =>
      have p131 : a.tmps[131]?.getD undef = evV ⟨1, 0, 0, 0, 0, 0, 0⟩ := (hW 21 (by kernel_rfl))
      have p132 : a.tmps[132]?.getD undef = evV ⟨7, 0, 0, 0, 0, 0, 0⟩ := (hW 22 (by kernel_rfl))
      have p133 : a.tmps[133]?.getD undef = evV ⟨1, 0, 0, 0, 0, 0, 0⟩ := (hW 23 (by kernel_rfl))
      exact n_slice [⟨1, 0, 0, 0, 0, 0, 0⟩, ⟨7, 0, 0, 0, 0, 0, 0⟩, ⟨1, 0, 0, 0, 0, 0, 0⟩] #[(0, .tmp 131), (1, .tmp 132), (2, .tmp 133)] (opAtW ho (by kernel_rfl)) rfl (by kernel_rfl) (by decide) (by decide) (by simp [Act.eval, p131, p132, p133]) (fun v w' hb' hs => hK v w' hb' hs)
    | 25, _ =>
      exact n_bad HC (HC.below W w ht hb) 134 true (opAtW ho (by kernel_rfl)) (hW 24 (by kernel_rfl)) (by decide) (by decide) (by kernel_rfl) (fun w' hb' => hK _ w' hb' rfl)
    | 26, _ =>
      exact u_notT 135 (opAtW ho (by kernel_rfl)) (hW 25 (by kernel_rfl)) (hK _ _ (Below.refl _ _) rfl)
    | 27, _ =>
      exact v_orF 130 136 (opAtW ho (by kernel_rfl)) (hW 20 (by kernel_rfl)) (hW 26 (by kernel_rfl)) (hK _ _ (Below.refl _ _) rfl)
    | 28, _ =>
      exact v_move 137 (opAtW ho (by kernel_rfl)) (hW 27 (by kernel_rfl)) (hK _ _ (Below.refl _ _) rfl)
    | 29, _ =>
      exact o_ev (opAtW ho (by kernel_rfl)) (ev_any (1) (0) (3) w) (fun w' hb' => hK _ w' hb' rfl)
    | 30, _ =>
      exact o_ev (opAtW ho (by kernel_rfl)) (ev_any (1) (0) (2) w) (fun w' hb' => hK _ w' hb' rfl)
    | 31, _ =>
      exact o_by 140 (opAtW ho (by kernel_rfl)) (hW 30 (by kernel_rfl)) (by_any 1 ⟨1, 0, 0, 0, 2, 0, 0⟩ w) (fun w' hb' => hK _ w' hb' rfl)
    | 32, _ =>
      have p139 : a.tmps[139]?.getD undef = evV ⟨1, 0, 0, 0, 3, 0, 0⟩ := (hW 29 (by kernel_rfl))
      have p141 : a.tmps[141]?.getD undef = evV ⟨1, 1, 0, 0, 2, 0, 0⟩ := (hW 31 (by kernel_rfl))
      exact n_slice [⟨1, 0, 0, 0, 3, 0, 0⟩, ⟨1, 1, 0, 0, 2, 0, 0⟩] #[(0, .tmp 139), (1, .tmp 141)] (opAtW ho (by kernel_rfl)) rfl (by kernel_rfl) (by decide) (by decide) (by simp [Act.eval, p139, p141]) (fun v w' hb' hs => hK v w' hb' hs)
    | 33, _ =>
      exact n_bad HC (HC.below W w ht hb) 142 true (opAtW ho (by kernel_rfl)) (hW 32 (by kernel_rfl)) (by decide) (by decide) (by kernel_rfl) (fun w' hb' => hK _ w' hb' rfl)
    | 34, _ =>
      exact u_notT 143 (opAtW ho (by kernel_rfl)) (hW 33 (by kernel_rfl)) (hK _ _ (Below.refl _ _) rfl)
    | 35, _ =>
      exact v_orF 138 144 (opAtW ho (by kernel_rfl)) (hW 28 (by kernel_rfl)) (hW 34 (by kernel_rfl)) (hK _ _ (Below.refl _ _) rfl)
    | 36, _ =>
      exact v_move 145 (opAtW ho (by kernel_rfl)) (hW 35 (by kernel_rfl)) (hK _ _ (Below.refl _ _) rfl)
    | 37, _ =>
      exact o_ev (opAtW ho (by kernel_rfl)) (ev_any (1) (0) (3) w) (fun w' hb' => hK _ w' hb' rfl)
    | 38, _ =>
      exact o_ev (opAtW ho (by kernel_rfl)) (ev_any (1) (0) (3) w) (fun w' hb' => hK _ w' hb' rfl)
    | 39, _ =>
      exact o_by 148 (opAtW ho (by kernel_rfl)) (hW 38 (by kernel_rfl)) (by_any 1 ⟨1, 0, 0, 0, 3, 0, 0⟩ w) (fun w' hb' => hK _ w' hb' rfl)
    | 40, _ =>
      have p147 : a.tmps[147]?.getD undef = evV ⟨1, 0, 0, 0, 3, 0, 0⟩ := (hW 37 (by kernel_rfl))
      have p149 : a.tmps[149]?.getD undef = evV ⟨1, 1, 0, 0, 3, 0, 0⟩ := (hW 39 (by kernel_rfl))
      exact n_slice [⟨1, 0, 0, 0, 3, 0, 0⟩, ⟨1, 1, 0, 0, 3, 0, 0⟩] #[(0, .tmp 147), (1, .tmp 149)] (opAtW ho (by kernel_rfl)) rfl (by kernel_rfl) (by decide) (by decide) (by simp [Act.eval, p147, p149]) (fun v w' hb' hs => hK v w' hb' hs)
    | 41, _ =>
      exact n_over 150 (opAtW ho (by kernel_rfl)) (hW 40 (by kernel_rfl)) (fun u w' hb' hs => hK u w' hb' hs)
    | 42, _ =>
      exact n_fine HC (HC.below W w ht hb) 151 true (opAtW ho (by kernel_rfl)) (hW 41 (by kernel_rfl)) (by decide) (by decide) (by decide) (by decide) (by kernel_rfl) (fun w' hb' => hK _ w' hb' rfl)
    | 43, _ =>
      exact u_notT 152 (opAtW ho (by kernel_rfl)) (hW 42 (by kernel_rfl)) (hK _ _ (Below.refl _ _) rfl)
    | 44, _ =>
      exact v_orF 146 153 (opAtW ho (by kernel_rfl)) (hW 36 (by kernel_rfl)) (hW 43 (by kernel_rfl)) (hK _ _ (Below.refl _ _) rfl)
    | i + 45, h => exact absurd (show i + 45 < 45 from h) (by omega)
  · intro us w hu hb hS
    have hat : ∀ j (hj : j < sn16_ds.length), (putAll T0 sn16_ds us)[sn16_ds[j]]?.getD undef = us.getD j undef := fun j hj => by
      rw [putAll_at T0 sn16_ds us j hj hu.symm (by decide) (hlt _ (List.getElem_mem hj)), ← List.getD_eq_getElem?_getD]
    have r154 := hS 44 (by decide)
    rw [← hat 44 (by decide)] at r154
    exact hend _ w (by rw [putAll_size]; exact hsz) hb (fun x hx => putAll_far sn16_ds us T0 x hx) r154
noncomputable def sn18_ops : Array Oper := opsW Tryd.f3 18
def sn18_ds : List Nat := [155, 156, 157, 158, 159, 160, 161, 162, 163, 164, 165, 166, 167, 168, 169, 170, 171, 172, 173, 174, 175, 176, 177, 178, 179, 180, 181, 182, 183, 184, 185, 186, 187, 188, 189, 190, 191, 192, 193, 194, 195, 196, 197, 198, 199, 200, 201, 202]
def sn18_S : Nat → Value → World → Prop
  | 0, v, w => v = evV ⟨1, 0, 0, 0, 0, 0, 0⟩
  | 1, v, w => v = evV ⟨3, 0, 0, 2, 0, 0, 0⟩
  | 2, v, w => SlA [⟨1, 0, 0, 0, 0, 0, 0⟩, ⟨3, 0, 0, 2, 0, 0, 0⟩] (v) w
  | 3, v, w => v = .bool true
  | 4, v, w => v = .bool false
  | 5, v, w => v = .bool false
  | 6, v, w => v = evV ⟨1, 0, 0, 0, 0, 0, 0⟩
  | 7, v, w => v = evV ⟨2, 0, 0, 0, 0, 0, 0⟩
  | 8, v, w => v = evV ⟨2, 0, 0, 0, 0, 0, 0⟩
  | 9, v, w => SlA [⟨1, 0, 0, 0, 0, 0, 0⟩, ⟨2, 0, 0, 0, 0, 0, 0⟩, ⟨2, 0, 0, 0, 0, 0, 0⟩] (v) w
  | 10, v, w => v = .bool true
  | 11, v, w => v = .bool false
  | 12, v, w => v = .bool false
  | 13, v, w => v = .bool false
  | 14, v, w => v = evV ⟨1, 0, 0, 0, 0, 0, 0⟩
  | 15, v, w => v = evV ⟨2, 0, 0, 0, 0, 0, 0⟩
  | 16, v, w => v = evV ⟨3, 0, 0, 1, 0, 0, 0⟩
  | 17, v, w => SlA [⟨1, 0, 0, 0, 0, 0, 0⟩, ⟨2, 0, 0, 0, 0, 0, 0⟩, ⟨3, 0, 0, 1, 0, 0, 0⟩] (v) w
  | 18, v, w => v = .bool true
  | 19, v, w => v = .bool false
  | 20, v, w => v = .bool false
  | 21, v, w => v = .bool false
  | 22, v, w => v = evV ⟨1, 0, 0, 0, 0, 0, 0⟩
  | 23, v, w => v = evV ⟨2, 0, 0, 0, 1, 0, 0⟩
  | 24, v, w => SlA [⟨1, 0, 0, 0, 0, 0, 0⟩, ⟨2, 0, 0, 0, 1, 0, 0⟩] (v) w
  | 25, v, w => v = .bool true
  | 26, v, w => v = .bool false
  | 27, v, w => v = .bool false
  | 28, v, w => v = .bool false
  | 29, v, w => v = evV ⟨1, 0, 0, 0, 0, 0, 0⟩
  | 30, v, w => v = evV ⟨2, 0, 0, 0, 0, 0, 0⟩
  | 31, v, w => v = evV ⟨7, 0, 0, 0, 0, 0, 0⟩
  | 32, v, w => SlA [⟨1, 0, 0, 0, 0, 0, 0⟩, ⟨2, 0, 0, 0, 0, 0, 0⟩, ⟨7, 0, 0, 0, 0, 0, 0⟩] (v) w
  | 33, v, w => v = .bool true
  | 34, v, w => v = .bool false
  | 35, v, w => v = .bool false
  | 36, v, w => v = .bool false
  | 37, v, w => v = evV ⟨1, 0, 0, 0, 0, 0, 0⟩
  | 38, v, w => v = evV ⟨2, 0, 0, 0, 0, 0, 0⟩
  | 39, v, w => v = evV ⟨3, 0, 0, 2, 0, 0, 0⟩
  | 40, v, w => v = evV ⟨2, 0, 0, 0, 0, 0, 0⟩
  | 41, v, w => v = evV ⟨3, 0, 0, 2, 0, 0, 0⟩
  | 42, v, w => v = evV ⟨7, 0, 0, 0, 0, 0, 0⟩
  | 43, v, w => SlA [⟨1, 0, 0, 0, 0, 0, 0⟩, ⟨2, 0, 0, 0, 0, 0, 0⟩, ⟨3, 0, 0, 2, 0, 0, 0⟩, ⟨2, 0, 0, 0, 0, 0, 0⟩, ⟨3, 0, 0, 2, 0, 0, 0⟩, ⟨7, 0, 0, 0, 0, 0, 0⟩] (v) w
  | 44, v, w => TrA 3 4 2 [⟨1, 0, 0, 0, 0, 0, 0⟩, ⟨2, 0, 0, 0, 0, 0, 0⟩, ⟨3, 0, 0, 2, 0, 0, 0⟩, ⟨2, 0, 0, 0, 0, 0, 0⟩, ⟨3, 0, 0, 2, 0, 0, 0⟩, ⟨7, 0, 0, 0, 0, 0, 0⟩] (v) w
  | 45, v, w => v = .bool true
  | 46, v, w => v = .bool false
  | 47, v, w => v = .bool false
  | _ + 48, _, _ => False
theorem sn18_mono (i : Nat) (v : Value) (w w' : World) (b : Below w.heap.size w w') (h : sn18_S i v w) : sn18_S i v w' := by
  match i, h with
  | 0, h => exact h
  | 1, h => exact h
  | 2, h => exact SlA.stays h b
  | 3, h => exact h
  | 4, h => exact h
  | 5, h => exact h
  | 6, h => exact h
  | 7, h => exact h
  | 8, h => exact h
  | 9, h => exact SlA.stays h b
  | 10, h => exact h
  | 11, h => exact h
  | 12, h => exact h
  | 13, h => exact h
  | 14, h => exact h
  | 15, h => exact h
  | 16, h => exact h
  | 17, h => exact SlA.stays h b
  | 18, h => exact h
  | 19, h => exact h
  | 20, h => exact h
  | 21, h => exact h
  | 22, h => exact h
  | 23, h => exact h
  | 24, h => exact SlA.stays h b
  | 25, h => exact h
  | 26, h => exact h
  | 27, h => exact h
  | 28, h => exact h
  | 29, h => exact h
  | 30, h => exact h
  | 31, h => exact h
  | 32, h => exact SlA.stays h b
  | 33, h => exact h
  | 34, h => exact h
  | 35, h => exact h
  | 36, h => exact h
  | 37, h => exact h
  | 38, h => exact h
  | 39, h => exact h
  | 40, h => exact h
  | 41, h => exact h
  | 42, h => exact h
  | 43, h => exact SlA.stays h b
  | 44, h => exact TrA.stays h b
  | 45, h => exact h
  | 46, h => exact h
  | 47, h => exact h
set_option maxRecDepth 100000 in
set_option maxHeartbeats 4000000 in
theorem sn18 {Tb : World → Prop} (HC : CheckC Tb) {id : Nat} {ops : Array Oper} (hops : ops = sn18_ops) (T0 : Array Value) (hsz : T0.size = 726) (W : World) (ht : Tb W) (p6 : PtE ⟨1, 0, 0, 0, 0, 0, 0⟩ (T0[6]?.getD undef) W) (p7 : PtE ⟨2, 0, 0, 0, 0, 0, 0⟩ (T0[7]?.getD undef) W) (p8 : PtE ⟨3, 0, 0, 2, 0, 0, 0⟩ (T0[8]?.getD undef) W) {Q : Exit → Act → World → Prop}
    (hend : ∀ (T : Array Value) (w : World), T.size = 726 → Below W.heap.size W w → (∀ x, x ∉ sn18_ds → T[x]? = T0[x]?) → T[202]?.getD undef = .bool false → Q .normal ⟨T, []⟩ w) : (Code.region id ops true).wp Tryd.prog Q ⟨T0, []⟩ W := by
  subst hops
  have hos : sn18_ops.size = 48 := by kernel_rfl
  have hga : (List.range 48).all (fun i => match sn18_ops[i]? with | some o => o.guard == ([none, none, none, none, none, none, some (5, false), some (5, false), some (5, false), some (5, false), some (5, false), some (5, false), none, none, some (13, false), some (13, false), some (13, false), some (13, false), some (13, false), some (13, false), none, none, some (21, false), some (21, false), some (21, false), some (21, false), some (21, false), none, none, some (28, false), some (28, false), some (28, false), some (28, false), some (28, false), some (28, false), none, none, some (36, false), some (36, false), some (36, false), some (36, false), some (36, false), some (36, false), some (36, false), some (36, false), some (36, false), some (36, false), none] : List (Option (Nat × Bool))).getD i none | none => false) = true := by kernel_rfl
  have q6 : ∀ (a : Act) (w : World), (∀ t, t ∉ sn18_ds → a.tmps[t]?.getD undef = T0[t]?.getD undef) → Below W.heap.size W w → PtE ⟨1, 0, 0, 0, 0, 0, 0⟩ (a.tmps[6]?.getD undef) w := fun a w hT hb => by rw [hT 6 (by decide)]; exact PtE.stays p6 hb
  have q7 : ∀ (a : Act) (w : World), (∀ t, t ∉ sn18_ds → a.tmps[t]?.getD undef = T0[t]?.getD undef) → Below W.heap.size W w → PtE ⟨2, 0, 0, 0, 0, 0, 0⟩ (a.tmps[7]?.getD undef) w := fun a w hT hb => by rw [hT 7 (by decide)]; exact PtE.stays p7 hb
  have q8 : ∀ (a : Act) (w : World), (∀ t, t ∉ sn18_ds → a.tmps[t]?.getD undef = T0[t]?.getD undef) → Below W.heap.size W w → PtE ⟨3, 0, 0, 2, 0, 0, 0⟩ (a.tmps[8]?.getD undef) w := fun a w hT hb => by rw [hT 8 (by decide)]; exact PtE.stays p8 hb
  have hlt : ∀ x ∈ sn18_ds, x < T0.size := fun x hx => by
    have hall : (sn18_ds.all fun d => decide (d < 726)) = true := by decide
    have := List.all_eq_true.1 hall x hx
    simp only [decide_eq_true_eq] at this
    omega
  refine wp_region_kinds3 sn18_S sn18_ds W T0 (by decide) hlt (by kernel_rfl) (by kernel_rfl) (fun i o j want ho hgd => ?_) sn18_mono ?_ ?_
  · have hi : i < 48 := by rw [← hos]; exact (Array.getElem?_eq_some_iff.1 ho).1
    have h1 := List.all_eq_true.1 hga i (by simpa using hi)
    rw [ho] at h1
    simp only [hgd, beq_iff_eq] at h1
    match i, hi with
    | 0, _ => cases h1
    | 1, _ => cases h1
    | 2, _ => cases h1
    | 3, _ => cases h1
    | 4, _ => cases h1
    | 5, _ => cases h1
    | 6, _ => obtain ⟨rfl, rfl⟩ := Prod.mk.inj (Option.some.inj h1); exact fun v w h => h
    | 7, _ => obtain ⟨rfl, rfl⟩ := Prod.mk.inj (Option.some.inj h1); exact fun v w h => h
    | 8, _ => obtain ⟨rfl, rfl⟩ := Prod.mk.inj (Option.some.inj h1); exact fun v w h => h
    | 9, _ => obtain ⟨rfl, rfl⟩ := Prod.mk.inj (Option.some.inj h1); exact fun v w h => h
    | 10, _ => obtain ⟨rfl, rfl⟩ := Prod.mk.inj (Option.some.inj h1); exact fun v w h => h
    | 11, _ => obtain ⟨rfl, rfl⟩ := Prod.mk.inj (Option.some.inj h1); exact fun v w h => h
    | 12, _ => cases h1
    | 13, _ => cases h1
    | 14, _ => obtain ⟨rfl, rfl⟩ := Prod.mk.inj (Option.some.inj h1); exact fun v w h => h
    | 15, _ => obtain ⟨rfl, rfl⟩ := Prod.mk.inj (Option.some.inj h1); exact fun v w h => h
    | 16, _ => obtain ⟨rfl, rfl⟩ := Prod.mk.inj (Option.some.inj h1); exact fun v w h => h
    | 17, _ => obtain ⟨rfl, rfl⟩ := Prod.mk.inj (Option.some.inj h1); exact fun v w h => h
    | 18, _ => obtain ⟨rfl, rfl⟩ := Prod.mk.inj (Option.some.inj h1); exact fun v w h => h
    | 19, _ => obtain ⟨rfl, rfl⟩ := Prod.mk.inj (Option.some.inj h1); exact fun v w h => h
    | 20, _ => cases h1
    | 21, _ => cases h1
    | 22, _ => obtain ⟨rfl, rfl⟩ := Prod.mk.inj (Option.some.inj h1); exact fun v w h => h
    | 23, _ => obtain ⟨rfl, rfl⟩ := Prod.mk.inj (Option.some.inj h1); exact fun v w h => h
    | 24, _ => obtain ⟨rfl, rfl⟩ := Prod.mk.inj (Option.some.inj h1); exact fun v w h => h
    | 25, _ => obtain ⟨rfl, rfl⟩ := Prod.mk.inj (Option.some.inj h1); exact fun v w h => h
    | 26, _ => obtain ⟨rfl, rfl⟩ := Prod.mk.inj (Option.some.inj h1); exact fun v w h => h
    | 27, _ => cases h1
    | 28, _ => cases h1
    | 29, _ => obtain ⟨rfl, rfl⟩ := Prod.mk.inj (Option.some.inj h1); exact fun v w h => h
    | 30, _ => obtain ⟨rfl, rfl⟩ := Prod.mk.inj (Option.some.inj h1); exact fun v w h => h
    | 31, _ => obtain ⟨rfl, rfl⟩ := Prod.mk.inj (Option.some.inj h1); exact fun v w h => h
    | 32, _ => obtain ⟨rfl, rfl⟩ := Prod.mk.inj (Option.some.inj h1); exact fun v w h => h
    | 33, _ => obtain ⟨rfl, rfl⟩ := Prod.mk.inj (Option.some.inj h1); exact fun v w h => h
    | 34, _ => obtain ⟨rfl, rfl⟩ := Prod.mk.inj (Option.some.inj h1); exact fun v w h => h
    | 35, _ => cases h1
    | 36, _ => cases h1
    | 37, _ => obtain ⟨rfl, rfl⟩ := Prod.mk.inj (Option.some.inj h1); exact fun v w h => h
    | 38, _ => obtain ⟨rfl, rfl⟩ := Prod.mk.inj (Option.some.inj h1); exact fun v w h => h
    | 39, _ => obtain ⟨rfl, rfl⟩ := Prod.mk.inj (Option.some.inj h1); exact fun v w h => h
    | 40, _ => obtain ⟨rfl, rfl⟩ := Prod.mk.inj (Option.some.inj h1); exact fun v w h => h
    | 41, _ => obtain ⟨rfl, rfl⟩ := Prod.mk.inj (Option.some.inj h1); exact fun v w h => h
    | 42, _ => obtain ⟨rfl, rfl⟩ := Prod.mk.inj (Option.some.inj h1); exact fun v w h => h
    | 43, _ => obtain ⟨rfl, rfl⟩ := Prod.mk.inj (Option.some.inj h1); exact fun v w h => h
    | 44, _ => obtain ⟨rfl, rfl⟩ := Prod.mk.inj (Option.some.inj h1); exact fun v w h => h
    | 45, _ => obtain ⟨rfl, rfl⟩ := Prod.mk.inj (Option.some.inj h1); exact fun v w h => h
    | 46, _ => obtain ⟨rfl, rfl⟩ := Prod.mk.inj (Option.some.inj h1); exact fun v w h => h
    | 47, _ => cases h1
    | i + 48, h => exact absurd (show i + 48 < 48 from h) (by omega)
  · intro i o ho hi a w hT hW hb K hK
    match i, hi with
    | 0, _ =>
      exact n_load 6 (opAtW ho (by kernel_rfl)) (q6 a w hT hb) (hK _ _ (Below.refl _ _) rfl)
    | 1, _ =>
      exact n_load 8 (opAtW ho (by kernel_rfl)) (q8 a w hT hb) (hK _ _ (Below.refl _ _) rfl)
    | 2, _ =>
      have p155 : a.tmps[155]?.getD undef = evV ⟨1, 0, 0, 0, 0, 0, 0⟩ := (hW 0 (by kernel_rfl))
      have p156 : a.tmps[156]?.getD undef = evV ⟨3, 0, 0, 2, 0, 0, 0⟩ := (hW 1 (by kernel_rfl))
      exact n_slice [⟨1, 0, 0, 0, 0, 0, 0⟩, ⟨3, 0, 0, 2, 0, 0, 0⟩] #[(0, .tmp 155), (1, .tmp 156)] (opAtW ho (by kernel_rfl)) rfl (by kernel_rfl) (by decide) (by decide) (by simp [Act.eval, p155, p156]) (fun v w' hb' hs => hK v w' hb' hs)
    | 3, _ =>
      exact n_bad HC (HC.below W w ht hb) 157 true (opAtW ho (by kernel_rfl)) (hW 2 (by kernel_rfl)) (by decide) (by decide) (by kernel_rfl) (fun w' hb' => hK _ w' hb' rfl)
    | 4, _ =>
      exact u_notT 158 (opAtW ho (by kernel_rfl)) (hW 3 (by kernel_rfl)) (hK _ _ (Below.refl _ _) rfl)
    | 5, _ =>
      exact v_move 159 (opAtW ho (by kernel_rfl)) (hW 4 (by kernel_rfl)) (hK _ _ (Below.refl _ _) rfl)
    | 6, _ =>
      exact n_load 6 (opAtW ho (by kernel_rfl)) (q6 a w hT hb) (hK _ _ (Below.refl _ _) rfl)
    | 7, _ =>
      exact n_load 7 (opAtW ho (by kernel_rfl)) (q7 a w hT hb) (hK _ _ (Below.refl _ _) rfl)
    | 8, _ =>
      exact n_load 7 (opAtW ho (by kernel_rfl)) (q7 a w hT hb) (hK _ _ (Below.refl _ _) rfl)
    | 9, _ =>
      have p161 : a.tmps[161]?.getD undef = evV ⟨1, 0, 0, 0, 0, 0, 0⟩ := (hW 6 (by kernel_rfl))
      have p162 : a.tmps[162]?.getD undef = evV ⟨2, 0, 0, 0, 0, 0, 0⟩ := (hW 7 (by kernel_rfl))
      have p163 : a.tmps[163]?.getD undef = evV ⟨2, 0, 0, 0, 0, 0, 0⟩ := (hW 8 (by kernel_rfl))
      exact n_slice [⟨1, 0, 0, 0, 0, 0, 0⟩, ⟨2, 0, 0, 0, 0, 0, 0⟩, ⟨2, 0, 0, 0, 0, 0, 0⟩] #[(0, .tmp 161), (1, .tmp 162), (2, .tmp 163)] (opAtW ho (by kernel_rfl)) rfl (by kernel_rfl) (by decide) (by decide) (by simp [Act.eval, p161, p162, p163]) (fun v w' hb' hs => hK v w' hb' hs)
    | 10, _ =>
      exact n_bad HC (HC.below W w ht hb) 164 true (opAtW ho (by kernel_rfl)) (hW 9 (by kernel_rfl)) (by decide) (by decide) (by kernel_rfl) (fun w' hb' => hK _ w' hb' rfl)
    | 11, _ =>
      exact u_notT 165 (opAtW ho (by kernel_rfl)) (hW 10 (by kernel_rfl)) (hK _ _ (Below.refl _ _) rfl)
    | 12, _ =>
      exact v_orF 160 166 (opAtW ho (by kernel_rfl)) (hW 5 (by kernel_rfl)) (hW 11 (by kernel_rfl)) (hK _ _ (Below.refl _ _) rfl)
    | 13, _ =>
      exact v_move 167 (opAtW ho (by kernel_rfl)) (hW 12 (by kernel_rfl)) (hK _ _ (Below.refl _ _) rfl)
    | 14, _ =>
      exact n_load 6 (opAtW ho (by kernel_rfl)) (q6 a w hT hb) (hK _ _ (Below.refl _ _) rfl)
    | 15, _ =>
      exact n_load 7 (opAtW ho (by kernel_rfl)) (q7 a w hT hb) (hK _ _ (Below.refl _ _) rfl)
    | 16, _ =>
      exact o_ev (opAtW ho (by kernel_rfl)) (ev_any (3) (1) (0) w) (fun w' hb' => hK _ w' hb' rfl)
    | 17, _ =>
      have p169 : a.tmps[169]?.getD undef = evV ⟨1, 0, 0, 0, 0, 0, 0⟩ := (hW 14 (by kernel_rfl))
      have p170 : a.tmps[170]?.getD undef = evV ⟨2, 0, 0, 0, 0, 0, 0⟩ := (hW 15 (by kernel_rfl))
      have p171 : a.tmps[171]?.getD undef = evV ⟨3, 0, 0, 1, 0, 0, 0⟩ := (hW 16 (by kernel_rfl))
      exact n_slice [⟨1, 0, 0, 0, 0, 0, 0⟩, ⟨2, 0, 0, 0, 0, 0, 0⟩, ⟨3, 0, 0, 1, 0, 0, 0⟩] #[(0, .tmp 169), (1, .tmp 170), (2, .tmp 171)] (opAtW ho (by kernel_rfl)) rfl (by kernel_rfl) (by decide) (by decide) (by simp [Act.eval, p169, p170, p171]) (fun v w' hb' hs => hK v w' hb' hs)
    | 18, _ =>
      exact n_bad HC (HC.below W w ht hb) 172 true (opAtW ho (by kernel_rfl)) (hW 17 (by kernel_rfl)) (by decide) (by decide) (by kernel_rfl) (fun w' hb' => hK _ w' hb' rfl)
    | 19, _ =>
      exact u_notT 173 (opAtW ho (by kernel_rfl)) (hW 18 (by kernel_rfl)) (hK _ _ (Below.refl _ _) rfl)
    | 20, _ =>
      exact v_orF 168 174 (opAtW ho (by kernel_rfl)) (hW 13 (by kernel_rfl)) (hW 19 (by kernel_rfl)) (hK _ _ (Below.refl _ _) rfl)
    | 21, _ =>
      exact v_move 175 (opAtW ho (by kernel_rfl)) (hW 20 (by kernel_rfl)) (hK _ _ (Below.refl _ _) rfl)
    | 22, _ =>
      exact n_load 6 (opAtW ho (by kernel_rfl)) (q6 a w hT hb) (hK _ _ (Below.refl _ _) rfl)
    | 23, _ =>
      exact o_ev (opAtW ho (by kernel_rfl)) (ev_any (2) (0) (1) w) (fun w' hb' => hK _ w' hb' rfl)
    | 24, _ =>
      have p177 : a.tmps[177]?.getD undef = evV ⟨1, 0, 0, 0, 0, 0, 0⟩ := (hW 22 (by kernel_rfl))
      have p178 : a.tmps[178]?.getD undef = evV ⟨2, 0, 0, 0, 1, 0, 0⟩ := (hW 23 (by kernel_rfl))
      exact n_slice [⟨1, 0, 0, 0, 0, 0, 0⟩, ⟨2, 0, 0, 0, 1, 0, 0⟩] #[(0, .tmp 177), (1, .tmp 178)] (opAtW ho (by kernel_rfl)) rfl (by kernel_rfl) (by decide) (by decide) (by simp [Act.eval, p177, p178]) (fun v w' hb' hs => hK v w' hb' hs)
    | 25, _ =>
      exact n_bad HC (HC.below W w ht hb) 179 true (opAtW ho (by kernel_rfl)) (hW 24 (by kernel_rfl)) (by decide) (by decide) (by kernel_rfl) (fun w' hb' => hK _ w' hb' rfl)
    | 26, _ =>
      exact u_notT 180 (opAtW ho (by kernel_rfl)) (hW 25 (by kernel_rfl)) (hK _ _ (Below.refl _ _) rfl)
    | 27, _ =>
      exact v_orF 176 181 (opAtW ho (by kernel_rfl)) (hW 21 (by kernel_rfl)) (hW 26 (by kernel_rfl)) (hK _ _ (Below.refl _ _) rfl)
    | 28, _ =>
      exact v_move 182 (opAtW ho (by kernel_rfl)) (hW 27 (by kernel_rfl)) (hK _ _ (Below.refl _ _) rfl)
    | 29, _ =>
      exact n_load 6 (opAtW ho (by kernel_rfl)) (q6 a w hT hb) (hK _ _ (Below.refl _ _) rfl)
    | 30, _ =>
      exact n_load 7 (opAtW ho (by kernel_rfl)) (q7 a w hT hb) (hK _ _ (Below.refl _ _) rfl)
    | 31, _ =>
      exact o_ev (opAtW ho (by kernel_rfl)) (ev_any (7) (0) (0) w) (fun w' hb' => hK _ w' hb' rfl)
    | 32, _ =>
      have p184 : a.tmps[184]?.getD undef = evV ⟨1, 0, 0, 0, 0, 0, 0⟩ := (hW 29 (by kernel_rfl))
      have p185 : a.tmps[185]?.getD undef = evV ⟨2, 0, 0, 0, 0, 0, 0⟩ := (hW 30 (by kernel_rfl))
      have p186 : a.tmps[186]?.getD undef = evV ⟨7, 0, 0, 0, 0, 0, 0⟩ := (hW 31 (by kernel_rfl))
      exact n_slice [⟨1, 0, 0, 0, 0, 0, 0⟩, ⟨2, 0, 0, 0, 0, 0, 0⟩, ⟨7, 0, 0, 0, 0, 0, 0⟩] #[(0, .tmp 184), (1, .tmp 185), (2, .tmp 186)] (opAtW ho (by kernel_rfl)) rfl (by kernel_rfl) (by decide) (by decide) (by simp [Act.eval, p184, p185, p186]) (fun v w' hb' hs => hK v w' hb' hs)
    | 33, _ =>
      exact n_bad HC (HC.below W w ht hb) 187 true (opAtW ho (by kernel_rfl)) (hW 32 (by kernel_rfl)) (by decide) (by decide) (by kernel_rfl) (fun w' hb' => hK _ w' hb' rfl)
    | 34, _ =>
      exact u_notT 188 (opAtW ho (by kernel_rfl)) (hW 33 (by kernel_rfl)) (hK _ _ (Below.refl _ _) rfl)
    | 35, _ =>
      exact v_orF 183 189 (opAtW ho (by kernel_rfl)) (hW 28 (by kernel_rfl)) (hW 34 (by kernel_rfl)) (hK _ _ (Below.refl _ _) rfl)
    | 36, _ =>
      exact v_move 190 (opAtW ho (by kernel_rfl)) (hW 35 (by kernel_rfl)) (hK _ _ (Below.refl _ _) rfl)
    | 37, _ =>
      exact n_load 6 (opAtW ho (by kernel_rfl)) (q6 a w hT hb) (hK _ _ (Below.refl _ _) rfl)
    | 38, _ =>
      exact n_load 7 (opAtW ho (by kernel_rfl)) (q7 a w hT hb) (hK _ _ (Below.refl _ _) rfl)
    | 39, _ =>
      exact n_load 8 (opAtW ho (by kernel_rfl)) (q8 a w hT hb) (hK _ _ (Below.refl _ _) rfl)
    | 40, _ =>
      exact n_load 7 (opAtW ho (by kernel_rfl)) (q7 a w hT hb) (hK _ _ (Below.refl _ _) rfl)
    | 41, _ =>
      exact n_load 8 (opAtW ho (by kernel_rfl)) (q8 a w hT hb) (hK _ _ (Below.refl _ _) rfl)
    | 42, _ =>
      exact o_ev (opAtW ho (by kernel_rfl)) (ev_any (7) (0) (0) w) (fun w' hb' => hK _ w' hb' rfl)
    | 43, _ =>
      have p192 : a.tmps[192]?.getD undef = evV ⟨1, 0, 0, 0, 0, 0, 0⟩ := (hW 37 (by kernel_rfl))
      have p193 : a.tmps[193]?.getD undef = evV ⟨2, 0, 0, 0, 0, 0, 0⟩ := (hW 38 (by kernel_rfl))
      have p194 : a.tmps[194]?.getD undef = evV ⟨3, 0, 0, 2, 0, 0, 0⟩ := (hW 39 (by kernel_rfl))
      have p195 : a.tmps[195]?.getD undef = evV ⟨2, 0, 0, 0, 0, 0, 0⟩ := (hW 40 (by kernel_rfl))
      have p196 : a.tmps[196]?.getD undef = evV ⟨3, 0, 0, 2, 0, 0, 0⟩ := (hW 41 (by kernel_rfl))
      have p197 : a.tmps[197]?.getD undef = evV ⟨7, 0, 0, 0, 0, 0, 0⟩ := (hW 42 (by kernel_rfl))
      exact n_slice [⟨1, 0, 0, 0, 0, 0, 0⟩, ⟨2, 0, 0, 0, 0, 0, 0⟩, ⟨3, 0, 0, 2, 0, 0, 0⟩, ⟨2, 0, 0, 0, 0, 0, 0⟩, ⟨3, 0, 0, 2, 0, 0, 0⟩, ⟨7, 0, 0, 0, 0, 0, 0⟩] #[(0, .tmp 192), (1, .tmp 193), (2, .tmp 194), (3, .tmp 195), (4, .tmp 196), (5, .tmp 197)] (opAtW ho (by kernel_rfl)) rfl (by kernel_rfl) (by decide) (by decide) (by simp [Act.eval, p192, p193, p194, p195, p196, p197]) (fun v w' hb' hs => hK v w' hb' hs)
    | 44, _ =>
      exact n_over 198 (opAtW ho (by kernel_rfl)) (hW 43 (by kernel_rfl)) (fun u w' hb' hs => hK u w' hb' hs)
    | 45, _ =>
      exact n_fine HC (HC.below W w ht hb) 199 true (opAtW ho (by kernel_rfl)) (hW 44 (by kernel_rfl)) (by decide) (by decide) (by decide) (by decide) (by kernel_rfl) (fun w' hb' => hK _ w' hb' rfl)
    | 46, _ =>
      exact u_notT 200 (opAtW ho (by kernel_rfl)) (hW 45 (by kernel_rfl)) (hK _ _ (Below.refl _ _) rfl)
    | 47, _ =>
      exact v_orF 191 201 (opAtW ho (by kernel_rfl)) (hW 36 (by kernel_rfl)) (hW 46 (by kernel_rfl)) (hK _ _ (Below.refl _ _) rfl)
    | i + 48, h => exact absurd (show i + 48 < 48 from h) (by omega)
  · intro us w hu hb hS
    have hat : ∀ j (hj : j < sn18_ds.length), (putAll T0 sn18_ds us)[sn18_ds[j]]?.getD undef = us.getD j undef := fun j hj => by
      rw [putAll_at T0 sn18_ds us j hj hu.symm (by decide) (hlt _ (List.getElem_mem hj)), ← List.getD_eq_getElem?_getD]
    have r202 := hS 47 (by decide)
    rw [← hat 47 (by decide)] at r202
    exact hend _ w (by rw [putAll_size]; exact hsz) hb (fun x hx => putAll_far sn18_ds us T0 x hx) r202
noncomputable def sn20_ops : Array Oper := opsW Tryd.f3 20
def sn20_ds : List Nat := [203, 11]
def sn20_S : Nat → Value → World → Prop
  | 0, v, w => SlA [⟨1, 0, 0, 0, 0, 0, 0⟩, ⟨4, 0, 0, 0, 0, 0, 0⟩, ⟨5, 0, 0, 0, 1, 0, 0⟩, ⟨7, 0, 0, 0, 1, 0, 0⟩, ⟨8, 0, 0, 0, 0, 0, 0⟩, ⟨9, 0, 0, 0, 0, 0, 0⟩] (v) w
  | 1, v, w => SlA [⟨1, 0, 0, 0, 0, 0, 0⟩, ⟨4, 0, 0, 0, 0, 0, 0⟩, ⟨5, 0, 0, 0, 1, 0, 0⟩, ⟨7, 0, 0, 0, 1, 0, 0⟩, ⟨8, 0, 0, 0, 0, 0, 0⟩, ⟨9, 0, 0, 0, 0, 0, 0⟩] (v) w
  | _ + 2, _, _ => False
theorem sn20_mono (i : Nat) (v : Value) (w w' : World) (b : Below w.heap.size w w') (h : sn20_S i v w) : sn20_S i v w' := by
  match i, h with
  | 0, h => exact SlA.stays h b
  | 1, h => exact SlA.stays h b
set_option maxRecDepth 100000 in
set_option maxHeartbeats 4000000 in
theorem sn20 {Tb : World → Prop} (HC : CheckC Tb) {id : Nat} {ops : Array Oper} (hops : ops = sn20_ops) (T0 : Array Value) (hsz : T0.size = 726) (W : World) (ht : Tb W)  {Q : Exit → Act → World → Prop}
    (hend : ∀ (T : Array Value) (w : World), T.size = 726 → Below W.heap.size W w → (∀ x, x ∉ sn20_ds → T[x]? = T0[x]?) → SlA [⟨1, 0, 0, 0, 0, 0, 0⟩, ⟨4, 0, 0, 0, 0, 0, 0⟩, ⟨5, 0, 0, 0, 1, 0, 0⟩, ⟨7, 0, 0, 0, 1, 0, 0⟩, ⟨8, 0, 0, 0, 0, 0, 0⟩, ⟨9, 0, 0, 0, 0, 0, 0⟩] (T[11]?.getD undef) w → Q .normal ⟨T, []⟩ w) : (Code.region id ops false).wp Tryd.prog Q ⟨T0, []⟩ W := by
  subst hops
  have hos : sn20_ops.size = 2 := by kernel_rfl
  have hga : (List.range 2).all (fun i => match sn20_ops[i]? with | some o => o.guard == ([none, none] : List (Option (Nat × Bool))).getD i none | none => false) = true := by kernel_rfl
  have hlt : ∀ x ∈ sn20_ds, x < T0.size := fun x hx => by
    have hall : (sn20_ds.all fun d => decide (d < 726)) = true := by decide
    have := List.all_eq_true.1 hall x hx
    simp only [decide_eq_true_eq] at this
    omega
  refine wp_region_kindsS sn20_S sn20_ds W T0 (by decide) hlt (by kernel_rfl) (fun i o j want ho hgd => ?_) sn20_mono ?_ ?_
  · have hi : i < 2 := by rw [← hos]; exact (Array.getElem?_eq_some_iff.1 ho).1
    have h1 := List.all_eq_true.1 hga i (by simpa using hi)
    rw [ho] at h1
    simp only [hgd, beq_iff_eq] at h1
    match i, hi with
    | 0, _ => cases h1
    | 1, _ => cases h1
    | i + 2, h => exact absurd (show i + 2 < 2 from h) (by omega)
  · intro i o ho hi a w hT hW hb K hK
    match i, hi with
    | 0, _ =>
      exact o_writes (S := SlE writesF) (opAtW ho (by kernel_rfl)) (writes_any w) (fun u w' hb' hs => hK u w' hb' (hs.toA (by kernel_rfl)))
    | 1, _ =>
      exact v_assign 203 (opAtW ho (by kernel_rfl)) rfl (hK _ _ (Below.refl _ _) (hW 0 (by decide)))
    | i + 2, h => exact absurd (show i + 2 < 2 from h) (by omega)
  · intro us w hu hb hS
    have hat : ∀ j (hj : j < sn20_ds.length), (putAll T0 sn20_ds us)[sn20_ds[j]]?.getD undef = us.getD j undef := fun j hj => by
      rw [putAll_at T0 sn20_ds us j hj hu.symm (by decide) (hlt _ (List.getElem_mem hj)), ← List.getD_eq_getElem?_getD]
    have r11 := hS 1 (by decide)
    rw [← hat 1 (by decide)] at r11
    exact hend _ w (by rw [putAll_size]; exact hsz) hb (fun x hx => putAll_far sn20_ds us T0 x hx) r11
noncomputable def sn22_ops : Array Oper := opsW Tryd.f3 22
def sn22_ds : List Nat := [205, 206, 207, 208, 209, 210, 211, 212, 213, 214, 215, 216, 217, 218, 219, 220, 221, 222, 223, 224, 225, 226, 227, 228, 229, 230, 231, 232, 233, 234, 235, 236, 237, 238, 239, 240, 241, 242]
def sn22_S : Nat → Value → World → Prop
  | 0, v, w => SlA [⟨1, 0, 0, 0, 0, 0, 0⟩, ⟨4, 0, 0, 0, 0, 0, 0⟩, ⟨5, 0, 0, 0, 1, 0, 0⟩, ⟨7, 0, 0, 0, 1, 0, 0⟩, ⟨8, 0, 0, 0, 0, 0, 0⟩, ⟨9, 0, 0, 0, 0, 0, 0⟩] (v) w
  | 1, v, w => v = evV ⟨1, 0, 0, 0, 1, 0, 0⟩
  | 2, v, w => v = evV ⟨1, 1, 0, 0, 1, 0, 0⟩
  | 3, v, w => v = evV ⟨2, 0, 0, 0, 0, 0, 0⟩
  | 4, v, w => v = evV ⟨2, 1, 0, 0, 0, 0, 0⟩
  | 5, v, w => SlA [⟨1, 1, 0, 0, 1, 0, 0⟩, ⟨2, 1, 0, 0, 0, 0, 0⟩] (v) w
  | 6, v, w => SlA [⟨1, 1, 0, 0, 1, 0, 0⟩, ⟨2, 1, 0, 0, 0, 0, 0⟩] (v) w
  | 7, v, w => LsA [[⟨1, 0, 0, 0, 0, 0, 0⟩, ⟨4, 0, 0, 0, 0, 0, 0⟩, ⟨5, 0, 0, 0, 1, 0, 0⟩, ⟨7, 0, 0, 0, 1, 0, 0⟩, ⟨8, 0, 0, 0, 0, 0, 0⟩, ⟨9, 0, 0, 0, 0, 0, 0⟩], [⟨1, 1, 0, 0, 1, 0, 0⟩, ⟨2, 1, 0, 0, 0, 0, 0⟩]] (v) w
  | 8, v, w => SlA [⟨1, 0, 0, 0, 0, 0, 0⟩, ⟨4, 0, 0, 0, 0, 0, 0⟩, ⟨5, 0, 0, 0, 1, 0, 0⟩, ⟨7, 0, 0, 0, 1, 0, 0⟩, ⟨8, 0, 0, 0, 0, 0, 0⟩, ⟨9, 0, 0, 0, 0, 0, 0⟩, ⟨1, 1, 0, 0, 1, 0, 0⟩, ⟨2, 1, 0, 0, 0, 0, 0⟩] (v) w
  | 9, v, w => v = .bool true
  | 10, v, w => v = .bool false
  | 11, v, w => v = .bool false
  | 12, v, w => SlA [⟨1, 0, 0, 0, 0, 0, 0⟩, ⟨4, 0, 0, 0, 0, 0, 0⟩, ⟨5, 0, 0, 0, 1, 0, 0⟩, ⟨7, 0, 0, 0, 1, 0, 0⟩, ⟨8, 0, 0, 0, 0, 0, 0⟩, ⟨9, 0, 0, 0, 0, 0, 0⟩] (v) w
  | 13, v, w => v = evV ⟨1, 0, 0, 0, 1, 0, 0⟩
  | 14, v, w => v = evV ⟨1, 1, 0, 0, 1, 0, 0⟩
  | 15, v, w => v = evV ⟨2, 0, 0, 0, 1, 0, 0⟩
  | 16, v, w => v = evV ⟨2, 1, 0, 0, 1, 0, 0⟩
  | 17, v, w => v = evV ⟨3, 0, 0, 2, 0, 0, 0⟩
  | 18, v, w => v = evV ⟨3, 1, 0, 2, 0, 0, 0⟩
  | 19, v, w => SlA [⟨1, 1, 0, 0, 1, 0, 0⟩, ⟨2, 1, 0, 0, 1, 0, 0⟩, ⟨3, 1, 0, 2, 0, 0, 0⟩] (v) w
  | 20, v, w => SlA [⟨1, 1, 0, 0, 1, 0, 0⟩, ⟨2, 1, 0, 0, 1, 0, 0⟩, ⟨3, 1, 0, 2, 0, 0, 0⟩] (v) w
  | 21, v, w => LsA [[⟨1, 0, 0, 0, 0, 0, 0⟩, ⟨4, 0, 0, 0, 0, 0, 0⟩, ⟨5, 0, 0, 0, 1, 0, 0⟩, ⟨7, 0, 0, 0, 1, 0, 0⟩, ⟨8, 0, 0, 0, 0, 0, 0⟩, ⟨9, 0, 0, 0, 0, 0, 0⟩], [⟨1, 1, 0, 0, 1, 0, 0⟩, ⟨2, 1, 0, 0, 1, 0, 0⟩, ⟨3, 1, 0, 2, 0, 0, 0⟩]] (v) w
  | 22, v, w => SlA [⟨1, 0, 0, 0, 0, 0, 0⟩, ⟨4, 0, 0, 0, 0, 0, 0⟩, ⟨5, 0, 0, 0, 1, 0, 0⟩, ⟨7, 0, 0, 0, 1, 0, 0⟩, ⟨8, 0, 0, 0, 0, 0, 0⟩, ⟨9, 0, 0, 0, 0, 0, 0⟩, ⟨1, 1, 0, 0, 1, 0, 0⟩, ⟨2, 1, 0, 0, 1, 0, 0⟩, ⟨3, 1, 0, 2, 0, 0, 0⟩] (v) w
  | 23, v, w => TrA 3 4 2 [⟨1, 0, 0, 0, 0, 0, 0⟩, ⟨4, 0, 0, 0, 0, 0, 0⟩, ⟨5, 0, 0, 0, 1, 0, 0⟩, ⟨7, 0, 0, 0, 1, 0, 0⟩, ⟨8, 0, 0, 0, 0, 0, 0⟩, ⟨9, 0, 0, 0, 0, 0, 0⟩, ⟨1, 1, 0, 0, 1, 0, 0⟩, ⟨2, 1, 0, 0, 1, 0, 0⟩, ⟨3, 1, 0, 2, 0, 0, 0⟩] (v) w
  | 24, v, w => v = .bool true
  | 25, v, w => v = .bool false
  | 26, v, w => v = .bool false
  | 27, v, w => v = .bool false
  | 28, v, w => SlA [⟨1, 0, 0, 0, 0, 0, 0⟩, ⟨4, 0, 0, 0, 0, 0, 0⟩, ⟨5, 0, 0, 0, 1, 0, 0⟩, ⟨7, 0, 0, 0, 1, 0, 0⟩, ⟨8, 0, 0, 0, 0, 0, 0⟩, ⟨9, 0, 0, 0, 0, 0, 0⟩] (v) w
  | 29, v, w => v = evV ⟨1, 0, 0, 0, 0, 0, 0⟩
  | 30, v, w => v = evV ⟨1, 1, 0, 0, 0, 0, 0⟩
  | 31, v, w => SlA [⟨1, 1, 0, 0, 0, 0, 0⟩] (v) w
  | 32, v, w => SlA [⟨1, 1, 0, 0, 0, 0, 0⟩] (v) w
  | 33, v, w => LsA [[⟨1, 0, 0, 0, 0, 0, 0⟩, ⟨4, 0, 0, 0, 0, 0, 0⟩, ⟨5, 0, 0, 0, 1, 0, 0⟩, ⟨7, 0, 0, 0, 1, 0, 0⟩, ⟨8, 0, 0, 0, 0, 0, 0⟩, ⟨9, 0, 0, 0, 0, 0, 0⟩], [⟨1, 1, 0, 0, 0, 0, 0⟩]] (v) w
  | 34, v, w => SlA [⟨1, 0, 0, 0, 0, 0, 0⟩, ⟨4, 0, 0, 0, 0, 0, 0⟩, ⟨5, 0, 0, 0, 1, 0, 0⟩, ⟨7, 0, 0, 0, 1, 0, 0⟩, ⟨8, 0, 0, 0, 0, 0, 0⟩, ⟨9, 0, 0, 0, 0, 0, 0⟩, ⟨1, 1, 0, 0, 0, 0, 0⟩] (v) w
  | 35, v, w => v = .bool true
  | 36, v, w => v = .bool false
  | 37, v, w => v = .bool false
  | _ + 38, _, _ => False
theorem sn22_mono (i : Nat) (v : Value) (w w' : World) (b : Below w.heap.size w w') (h : sn22_S i v w) : sn22_S i v w' := by
  match i, h with
  | 0, h => exact SlA.stays h b
  | 1, h => exact h
  | 2, h => exact h
  | 3, h => exact h
  | 4, h => exact h
  | 5, h => exact SlA.stays h b
  | 6, h => exact SlA.stays h b
  | 7, h => exact LsA.stays h b
  | 8, h => exact SlA.stays h b
  | 9, h => exact h
  | 10, h => exact h
  | 11, h => exact h
  | 12, h => exact SlA.stays h b
  | 13, h => exact h
  | 14, h => exact h
  | 15, h => exact h
  | 16, h => exact h
  | 17, h => exact h
  | 18, h => exact h
  | 19, h => exact SlA.stays h b
  | 20, h => exact SlA.stays h b
  | 21, h => exact LsA.stays h b
  | 22, h => exact SlA.stays h b
  | 23, h => exact TrA.stays h b
  | 24, h => exact h
  | 25, h => exact h
  | 26, h => exact h
  | 27, h => exact h
  | 28, h => exact SlA.stays h b
  | 29, h => exact h
  | 30, h => exact h
  | 31, h => exact SlA.stays h b
  | 32, h => exact SlA.stays h b
  | 33, h => exact LsA.stays h b
  | 34, h => exact SlA.stays h b
  | 35, h => exact h
  | 36, h => exact h
  | 37, h => exact h
set_option maxRecDepth 100000 in
set_option maxHeartbeats 4000000 in
theorem sn22 {Tb : World → Prop} (HC : CheckC Tb) {id : Nat} {ops : Array Oper} (hops : ops = sn22_ops) (T0 : Array Value) (hsz : T0.size = 726) (W : World) (ht : Tb W) (p6 : PtE ⟨1, 0, 0, 0, 0, 0, 0⟩ (T0[6]?.getD undef) W) (p7 : PtE ⟨2, 0, 0, 0, 0, 0, 0⟩ (T0[7]?.getD undef) W) (p8 : PtE ⟨3, 0, 0, 2, 0, 0, 0⟩ (T0[8]?.getD undef) W) (p11 : SlA [⟨1, 0, 0, 0, 0, 0, 0⟩, ⟨4, 0, 0, 0, 0, 0, 0⟩, ⟨5, 0, 0, 0, 1, 0, 0⟩, ⟨7, 0, 0, 0, 1, 0, 0⟩, ⟨8, 0, 0, 0, 0, 0, 0⟩, ⟨9, 0, 0, 0, 0, 0, 0⟩] (T0[11]?.getD undef) W) (p12 : PtE ⟨1, 0, 0, 0, 1, 0, 0⟩ (T0[12]?.getD undef) W) {Q : Exit → Act → World → Prop}
    (hend : ∀ (T : Array Value) (w : World), T.size = 726 → Below W.heap.size W w → (∀ x, x ∉ sn22_ds → T[x]? = T0[x]?) → T[242]?.getD undef = .bool false → Q .normal ⟨T, []⟩ w) : (Code.region id ops true).wp Tryd.prog Q ⟨T0, []⟩ W := by
  subst hops
  have hos : sn22_ops.size = 38 := by kernel_rfl
  have hga : (List.range 38).all (fun i => match sn22_ops[i]? with | some o => o.guard == ([none, none, none, none, none, none, none, none, none, none, none, none, some (11, false), some (11, false), some (11, false), some (11, false), some (11, false), some (11, false), some (11, false), some (11, false), some (11, false), some (11, false), some (11, false), some (11, false), some (11, false), some (11, false), none, none, some (27, false), some (27, false), some (27, false), some (27, false), some (27, false), some (27, false), some (27, false), some (27, false), some (27, false), none] : List (Option (Nat × Bool))).getD i none | none => false) = true := by kernel_rfl
  have q6 : ∀ (a : Act) (w : World), (∀ t, t ∉ sn22_ds → a.tmps[t]?.getD undef = T0[t]?.getD undef) → Below W.heap.size W w → PtE ⟨1, 0, 0, 0, 0, 0, 0⟩ (a.tmps[6]?.getD undef) w := fun a w hT hb => by rw [hT 6 (by decide)]; exact PtE.stays p6 hb
  have q7 : ∀ (a : Act) (w : World), (∀ t, t ∉ sn22_ds → a.tmps[t]?.getD undef = T0[t]?.getD undef) → Below W.heap.size W w → PtE ⟨2, 0, 0, 0, 0, 0, 0⟩ (a.tmps[7]?.getD undef) w := fun a w hT hb => by rw [hT 7 (by decide)]; exact PtE.stays p7 hb
  have q8 : ∀ (a : Act) (w : World), (∀ t, t ∉ sn22_ds → a.tmps[t]?.getD undef = T0[t]?.getD undef) → Below W.heap.size W w → PtE ⟨3, 0, 0, 2, 0, 0, 0⟩ (a.tmps[8]?.getD undef) w := fun a w hT hb => by rw [hT 8 (by decide)]; exact PtE.stays p8 hb
  have q11 : ∀ (a : Act) (w : World), (∀ t, t ∉ sn22_ds → a.tmps[t]?.getD undef = T0[t]?.getD undef) → Below W.heap.size W w → SlA [⟨1, 0, 0, 0, 0, 0, 0⟩, ⟨4, 0, 0, 0, 0, 0, 0⟩, ⟨5, 0, 0, 0, 1, 0, 0⟩, ⟨7, 0, 0, 0, 1, 0, 0⟩, ⟨8, 0, 0, 0, 0, 0, 0⟩, ⟨9, 0, 0, 0, 0, 0, 0⟩] (a.tmps[11]?.getD undef) w := fun a w hT hb => by rw [hT 11 (by decide)]; exact SlA.stays p11 hb
  have q12 : ∀ (a : Act) (w : World), (∀ t, t ∉ sn22_ds → a.tmps[t]?.getD undef = T0[t]?.getD undef) → Below W.heap.size W w → PtE ⟨1, 0, 0, 0, 1, 0, 0⟩ (a.tmps[12]?.getD undef) w := fun a w hT hb => by rw [hT 12 (by decide)]; exact PtE.stays p12 hb
  have hlt : ∀ x ∈ sn22_ds, x < T0.size := fun x hx => by
    have hall : (sn22_ds.all fun d => decide (d < 726)) = true := by decide
    have := List.all_eq_true.1 hall x hx
    simp only [decide_eq_true_eq] at this
    omega
  refine wp_region_kinds3 sn22_S sn22_ds W T0 (by decide) hlt (by kernel_rfl) (by kernel_rfl) (fun i o j want ho hgd => ?_) sn22_mono ?_ ?_
  · have hi : i < 38 := by rw [← hos]; exact (Array.getElem?_eq_some_iff.1 ho).1
    have h1 := List.all_eq_true.1 hga i (by simpa using hi)
    rw [ho] at h1
    simp only [hgd, beq_iff_eq] at h1
    match i, hi with
    | 0, _ => cases h1
    | 1, _ => cases h1
    | 2, _ => cases h1
    | 3, _ => cases h1
    | 4, _ => cases h1
    | 5, _ => cases h1
    | 6, _ => cases h1
    | 7, _ => cases h1
    | 8, _ => cases h1
    | 9, _ => cases h1
    | 10, _ => cases h1
    | 11, _ => cases h1
    | 12, _ => obtain ⟨rfl, rfl⟩ := Prod.mk.inj (Option.some.inj h1); exact fun v w h => h
    | 13, _ => obtain ⟨rfl, rfl⟩ := Prod.mk.inj (Option.some.inj h1); exact fun v w h => h
    | 14, _ => obtain ⟨rfl, rfl⟩ := Prod.mk.inj (Option.some.inj h1); exact fun v w h => h
    | 15, _ => obtain ⟨rfl, rfl⟩ := Prod.mk.inj (Option.some.inj h1); exact fun v w h => h
    | 16, _ => obtain ⟨rfl, rfl⟩ := Prod.mk.inj (Option.some.inj h1); exact fun v w h => h
    | 17, _ => obtain ⟨rfl, rfl⟩ := Prod.mk.inj (Option.some.inj h1); exact fun v w h => h
    | 18, _ => obtain ⟨rfl, rfl⟩ := Prod.mk.inj (Option.some.inj h1); exact fun v w h => h
    | 19, _ => obtain ⟨rfl, rfl⟩ := Prod.mk.inj (Option.some.inj h1); exact fun v w h => h
    | 20, _ => obtain ⟨rfl, rfl⟩ := Prod.mk.inj (Option.some.inj h1); exact fun v w h => h
    | 21, _ => obtain ⟨rfl, rfl⟩ := Prod.mk.inj (Option.some.inj h1); exact fun v w h => h
    | 22, _ => obtain ⟨rfl, rfl⟩ := Prod.mk.inj (Option.some.inj h1); exact fun v w h => h
    | 23, _ => obtain ⟨rfl, rfl⟩ := Prod.mk.inj (Option.some.inj h1); exact fun v w h => h
    | 24, _ => obtain ⟨rfl, rfl⟩ := Prod.mk.inj (Option.some.inj h1); exact fun v w h => h
    | 25, _ => obtain ⟨rfl, rfl⟩ := Prod.mk.inj (Option.some.inj h1); exact fun v w h => h
    | 26, _ => cases h1
    | 27, _ => cases h1
    | 28, _ => obtain ⟨rfl, rfl⟩ := Prod.mk.inj (Option.some.inj h1); exact fun v w h => h
    | 29, _ => obtain ⟨rfl, rfl⟩ := Prod.mk.inj (Option.some.inj h1); exact fun v w h => h
    | 30, _ => obtain ⟨rfl, rfl⟩ := Prod.mk.inj (Option.some.inj h1); exact fun v w h => h
    | 31, _ => obtain ⟨rfl, rfl⟩ := Prod.mk.inj (Option.some.inj h1); exact fun v w h => h
    | 32, _ => obtain ⟨rfl, rfl⟩ := Prod.mk.inj (Option.some.inj h1); exact fun v w h => h
    | 33, _ => obtain ⟨rfl, rfl⟩ := Prod.mk.inj (Option.some.inj h1); exact fun v w h => h
    | 34, _ => obtain ⟨rfl, rfl⟩ := Prod.mk.inj (Option.some.inj h1); exact fun v w h => h
    | 35, _ => obtain ⟨rfl, rfl⟩ := Prod.mk.inj (Option.some.inj h1); exact fun v w h => h
    | 36, _ => obtain ⟨rfl, rfl⟩ := Prod.mk.inj (Option.some.inj h1); exact fun v w h => h
    | 37, _ => cases h1
    | i + 38, h => exact absurd (show i + 38 < 38 from h) (by omega)
  · intro i o ho hi a w hT hW hb K hK
    match i, hi with
    | 0, _ =>
      exact v_move 11 (opAtW ho (by kernel_rfl)) rfl (hK _ _ (Below.refl _ _) (q11 a w hT hb))
    | 1, _ =>
      exact n_load 12 (opAtW ho (by kernel_rfl)) (q12 a w hT hb) (hK _ _ (Below.refl _ _) rfl)
    | 2, _ =>
      exact o_by 206 (opAtW ho (by kernel_rfl)) (hW 1 (by kernel_rfl)) (by_any 1 ⟨1, 0, 0, 0, 1, 0, 0⟩ w) (fun w' hb' => hK _ w' hb' rfl)
    | 3, _ =>
      exact n_load 7 (opAtW ho (by kernel_rfl)) (q7 a w hT hb) (hK _ _ (Below.refl _ _) rfl)
    | 4, _ =>
      exact o_by 208 (opAtW ho (by kernel_rfl)) (hW 3 (by kernel_rfl)) (by_any 1 ⟨2, 0, 0, 0, 0, 0, 0⟩ w) (fun w' hb' => hK _ w' hb' rfl)
    | 5, _ =>
      have p207 : a.tmps[207]?.getD undef = evV ⟨1, 1, 0, 0, 1, 0, 0⟩ := (hW 2 (by kernel_rfl))
      have p209 : a.tmps[209]?.getD undef = evV ⟨2, 1, 0, 0, 0, 0, 0⟩ := (hW 4 (by kernel_rfl))
      exact n_slice [⟨1, 1, 0, 0, 1, 0, 0⟩, ⟨2, 1, 0, 0, 0, 0, 0⟩] #[(0, .tmp 207), (1, .tmp 209)] (opAtW ho (by kernel_rfl)) rfl (by kernel_rfl) (by decide) (by decide) (by simp [Act.eval, p207, p209]) (fun v w' hb' hs => hK v w' hb' hs)
    | 6, _ =>
      exact n_many 210 (opAtW ho (by kernel_rfl)) (hW 5 (by kernel_rfl)) (fun u w' hb' hs => hK u w' hb' hs)
    | 7, _ =>
      have p205 : SlA [⟨1, 0, 0, 0, 0, 0, 0⟩, ⟨4, 0, 0, 0, 0, 0, 0⟩, ⟨5, 0, 0, 0, 1, 0, 0⟩, ⟨7, 0, 0, 0, 1, 0, 0⟩, ⟨8, 0, 0, 0, 0, 0, 0⟩, ⟨9, 0, 0, 0, 0, 0, 0⟩] (a.tmps[205]?.getD undef) w := (hW 0 (by kernel_rfl))
      have p211 : SlA [⟨1, 1, 0, 0, 1, 0, 0⟩, ⟨2, 1, 0, 0, 0, 0, 0⟩] (a.tmps[211]?.getD undef) w := (hW 6 (by kernel_rfl))
      refine n_lists [[⟨1, 0, 0, 0, 0, 0, 0⟩, ⟨4, 0, 0, 0, 0, 0, 0⟩, ⟨5, 0, 0, 0, 1, 0, 0⟩, ⟨7, 0, 0, 0, 1, 0, 0⟩, ⟨8, 0, 0, 0, 0, 0, 0⟩, ⟨9, 0, 0, 0, 0, 0, 0⟩], [⟨1, 1, 0, 0, 1, 0, 0⟩, ⟨2, 1, 0, 0, 0, 0, 0⟩]] [a.tmps[205]?.getD undef, a.tmps[211]?.getD undef] #[(0, .tmp 205), (1, .tmp 211)] (opAtW ho (by kernel_rfl)) rfl rfl (by decide) (by decide) (fun j h => ?_) (by simp [Act.eval]) (fun v w' hb' hs => hK v w' hb' hs)
      match j, h with
      | 0, _ => exact p205
      | 1, _ => exact p211
      | j + 2, h => exact absurd h (by simp)
    | 8, _ =>
      exact n_join 212 [⟨1, 0, 0, 0, 0, 0, 0⟩, ⟨4, 0, 0, 0, 0, 0, 0⟩, ⟨5, 0, 0, 0, 1, 0, 0⟩, ⟨7, 0, 0, 0, 1, 0, 0⟩, ⟨8, 0, 0, 0, 0, 0, 0⟩, ⟨9, 0, 0, 0, 0, 0, 0⟩, ⟨1, 1, 0, 0, 1, 0, 0⟩, ⟨2, 1, 0, 0, 0, 0, 0⟩] (opAtW ho (by kernel_rfl)) (hW 7 (by kernel_rfl)) (by decide) (by decide) rfl (fun u w' hb' hs => hK u w' hb' hs)
    | 9, _ =>
      exact n_bad HC (HC.below W w ht hb) 213 true (opAtW ho (by kernel_rfl)) (hW 8 (by kernel_rfl)) (by decide) (by decide) (by kernel_rfl) (fun w' hb' => hK _ w' hb' rfl)
    | 10, _ =>
      exact u_notT 214 (opAtW ho (by kernel_rfl)) (hW 9 (by kernel_rfl)) (hK _ _ (Below.refl _ _) rfl)
    | 11, _ =>
      exact v_move 215 (opAtW ho (by kernel_rfl)) (hW 10 (by kernel_rfl)) (hK _ _ (Below.refl _ _) rfl)
    | 12, _ =>
      exact v_move 11 (opAtW ho (by kernel_rfl)) rfl (hK _ _ (Below.refl _ _) (q11 a w hT hb))
    | 13, _ =>
      exact n_load 12 (opAtW ho (by kernel_rfl)) (q12 a w hT hb) (hK _ _ (Below.refl _ _) rfl)
    | 14, _ =>
      exact o_by 218 (opAtW ho (by kernel_rfl)) (hW 13 (by kernel_rfl)) (by_any 1 ⟨1, 0, 0, 0, 1, 0, 0⟩ w) (fun w' hb' => hK _ w' hb' rfl)
    | 15, _ =>
      exact o_ev (opAtW ho (by kernel_rfl)) (ev_any (2) (0) (1) w) (fun w' hb' => hK _ w' hb' rfl)
    | 16, _ =>
      exact o_by 220 (opAtW ho (by kernel_rfl)) (hW 15 (by kernel_rfl)) (by_any 1 ⟨2, 0, 0, 0, 1, 0, 0⟩ w) (fun w' hb' => hK _ w' hb' rfl)
    | 17, _ =>
      exact n_load 8 (opAtW ho (by kernel_rfl)) (q8 a w hT hb) (hK _ _ (Below.refl _ _) rfl)
    | 18, _ =>
      exact o_by 222 (opAtW ho (by kernel_rfl)) (hW 17 (by kernel_rfl)) (by_any 1 ⟨3, 0, 0, 2, 0, 0, 0⟩ w) (fun w' hb' => hK _ w' hb' rfl)
    | 19, _ =>
      have p219 : a.tmps[219]?.getD undef = evV ⟨1, 1, 0, 0, 1, 0, 0⟩ := (hW 14 (by kernel_rfl))
      have p221 : a.tmps[221]?.getD undef = evV ⟨2, 1, 0, 0, 1, 0, 0⟩ := (hW 16 (by kernel_rfl))
      have p223 : a.tmps[223]?.getD undef = evV ⟨3, 1, 0, 2, 0, 0, 0⟩ := (hW 18 (by kernel_rfl))
      exact n_slice [⟨1, 1, 0, 0, 1, 0, 0⟩, ⟨2, 1, 0, 0, 1, 0, 0⟩, ⟨3, 1, 0, 2, 0, 0, 0⟩] #[(0, .tmp 219), (1, .tmp 221), (2, .tmp 223)] (opAtW ho (by kernel_rfl)) rfl (by kernel_rfl) (by decide) (by decide) (by simp [Act.eval, p219, p221, p223]) (fun v w' hb' hs => hK v w' hb' hs)
    | 20, _ =>
      exact n_many 224 (opAtW ho (by kernel_rfl)) (hW 19 (by kernel_rfl)) (fun u w' hb' hs => hK u w' hb' hs)
    | 21, _ =>
      have p217 : SlA [⟨1, 0, 0, 0, 0, 0, 0⟩, ⟨4, 0, 0, 0, 0, 0, 0⟩, ⟨5, 0, 0, 0, 1, 0, 0⟩, ⟨7, 0, 0, 0, 1, 0, 0⟩, ⟨8, 0, 0, 0, 0, 0, 0⟩, ⟨9, 0, 0, 0, 0, 0, 0⟩] (a.tmps[217]?.getD undef) w := (hW 12 (by kernel_rfl))
      have p225 : SlA [⟨1, 1, 0, 0, 1, 0, 0⟩, ⟨2, 1, 0, 0, 1, 0, 0⟩, ⟨3, 1, 0, 2, 0, 0, 0⟩] (a.tmps[225]?.getD undef) w := (hW 20 (by kernel_rfl))
      refine n_lists [[⟨1, 0, 0, 0, 0, 0, 0⟩, ⟨4, 0, 0, 0, 0, 0, 0⟩, ⟨5, 0, 0, 0, 1, 0, 0⟩, ⟨7, 0, 0, 0, 1, 0, 0⟩, ⟨8, 0, 0, 0, 0, 0, 0⟩, ⟨9, 0, 0, 0, 0, 0, 0⟩], [⟨1, 1, 0, 0, 1, 0, 0⟩, ⟨2, 1, 0, 0, 1, 0, 0⟩, ⟨3, 1, 0, 2, 0, 0, 0⟩]] [a.tmps[217]?.getD undef, a.tmps[225]?.getD undef] #[(0, .tmp 217), (1, .tmp 225)] (opAtW ho (by kernel_rfl)) rfl rfl (by decide) (by decide) (fun j h => ?_) (by simp [Act.eval]) (fun v w' hb' hs => hK v w' hb' hs)
      match j, h with
      | 0, _ => exact p217
      | 1, _ => exact p225
      | j + 2, h => exact absurd h (by simp)
    | 22, _ =>
      exact n_join 226 [⟨1, 0, 0, 0, 0, 0, 0⟩, ⟨4, 0, 0, 0, 0, 0, 0⟩, ⟨5, 0, 0, 0, 1, 0, 0⟩, ⟨7, 0, 0, 0, 1, 0, 0⟩, ⟨8, 0, 0, 0, 0, 0, 0⟩, ⟨9, 0, 0, 0, 0, 0, 0⟩, ⟨1, 1, 0, 0, 1, 0, 0⟩, ⟨2, 1, 0, 0, 1, 0, 0⟩, ⟨3, 1, 0, 2, 0, 0, 0⟩] (opAtW ho (by kernel_rfl)) (hW 21 (by kernel_rfl)) (by decide) (by decide) rfl (fun u w' hb' hs => hK u w' hb' hs)
    | 23, _ =>
      exact n_over 227 (opAtW ho (by kernel_rfl)) (hW 22 (by kernel_rfl)) (fun u w' hb' hs => hK u w' hb' hs)
    | 24, _ =>
      exact n_fine HC (HC.below W w ht hb) 228 true (opAtW ho (by kernel_rfl)) (hW 23 (by kernel_rfl)) (by decide) (by decide) (by decide) (by decide) (by kernel_rfl) (fun w' hb' => hK _ w' hb' rfl)
    | 25, _ =>
      exact u_notT 229 (opAtW ho (by kernel_rfl)) (hW 24 (by kernel_rfl)) (hK _ _ (Below.refl _ _) rfl)
    | 26, _ =>
      exact v_orF 216 230 (opAtW ho (by kernel_rfl)) (hW 11 (by kernel_rfl)) (hW 25 (by kernel_rfl)) (hK _ _ (Below.refl _ _) rfl)
    | 27, _ =>
      exact v_move 231 (opAtW ho (by kernel_rfl)) (hW 26 (by kernel_rfl)) (hK _ _ (Below.refl _ _) rfl)
    | 28, _ =>
      exact v_move 11 (opAtW ho (by kernel_rfl)) rfl (hK _ _ (Below.refl _ _) (q11 a w hT hb))
    | 29, _ =>
      exact n_load 6 (opAtW ho (by kernel_rfl)) (q6 a w hT hb) (hK _ _ (Below.refl _ _) rfl)
    | 30, _ =>
      exact o_by 234 (opAtW ho (by kernel_rfl)) (hW 29 (by kernel_rfl)) (by_any 1 ⟨1, 0, 0, 0, 0, 0, 0⟩ w) (fun w' hb' => hK _ w' hb' rfl)
    | 31, _ =>
      have p235 : a.tmps[235]?.getD undef = evV ⟨1, 1, 0, 0, 0, 0, 0⟩ := (hW 30 (by kernel_rfl))
      exact n_slice [⟨1, 1, 0, 0, 0, 0, 0⟩] #[(0, .tmp 235)] (opAtW ho (by kernel_rfl)) rfl (by kernel_rfl) (by decide) (by decide) (by simp [Act.eval, p235]) (fun v w' hb' hs => hK v w' hb' hs)
    | 32, _ =>
      exact n_many 236 (opAtW ho (by kernel_rfl)) (hW 31 (by kernel_rfl)) (fun u w' hb' hs => hK u w' hb' hs)
    | 33, _ =>
      have p233 : SlA [⟨1, 0, 0, 0, 0, 0, 0⟩, ⟨4, 0, 0, 0, 0, 0, 0⟩, ⟨5, 0, 0, 0, 1, 0, 0⟩, ⟨7, 0, 0, 0, 1, 0, 0⟩, ⟨8, 0, 0, 0, 0, 0, 0⟩, ⟨9, 0, 0, 0, 0, 0, 0⟩] (a.tmps[233]?.getD undef) w := (hW 28 (by kernel_rfl))
      have p237 : SlA [⟨1, 1, 0, 0, 0, 0, 0⟩] (a.tmps[237]?.getD undef) w := (hW 32 (by kernel_rfl))
      refine n_lists [[⟨1, 0, 0, 0, 0, 0, 0⟩, ⟨4, 0, 0, 0, 0, 0, 0⟩, ⟨5, 0, 0, 0, 1, 0, 0⟩, ⟨7, 0, 0, 0, 1, 0, 0⟩, ⟨8, 0, 0, 0, 0, 0, 0⟩, ⟨9, 0, 0, 0, 0, 0, 0⟩], [⟨1, 1, 0, 0, 0, 0, 0⟩]] [a.tmps[233]?.getD undef, a.tmps[237]?.getD undef] #[(0, .tmp 233), (1, .tmp 237)] (opAtW ho (by kernel_rfl)) rfl rfl (by decide) (by decide) (fun j h => ?_) (by simp [Act.eval]) (fun v w' hb' hs => hK v w' hb' hs)
      match j, h with
      | 0, _ => exact p233
      | 1, _ => exact p237
      | j + 2, h => exact absurd h (by simp)
    | 34, _ =>
      exact n_join 238 [⟨1, 0, 0, 0, 0, 0, 0⟩, ⟨4, 0, 0, 0, 0, 0, 0⟩, ⟨5, 0, 0, 0, 1, 0, 0⟩, ⟨7, 0, 0, 0, 1, 0, 0⟩, ⟨8, 0, 0, 0, 0, 0, 0⟩, ⟨9, 0, 0, 0, 0, 0, 0⟩, ⟨1, 1, 0, 0, 0, 0, 0⟩] (opAtW ho (by kernel_rfl)) (hW 33 (by kernel_rfl)) (by decide) (by decide) rfl (fun u w' hb' hs => hK u w' hb' hs)
    | 35, _ =>
      exact n_bad HC (HC.below W w ht hb) 239 true (opAtW ho (by kernel_rfl)) (hW 34 (by kernel_rfl)) (by decide) (by decide) (by kernel_rfl) (fun w' hb' => hK _ w' hb' rfl)
    | 36, _ =>
      exact u_notT 240 (opAtW ho (by kernel_rfl)) (hW 35 (by kernel_rfl)) (hK _ _ (Below.refl _ _) rfl)
    | 37, _ =>
      exact v_orF 232 241 (opAtW ho (by kernel_rfl)) (hW 27 (by kernel_rfl)) (hW 36 (by kernel_rfl)) (hK _ _ (Below.refl _ _) rfl)
    | i + 38, h => exact absurd (show i + 38 < 38 from h) (by omega)
  · intro us w hu hb hS
    have hat : ∀ j (hj : j < sn22_ds.length), (putAll T0 sn22_ds us)[sn22_ds[j]]?.getD undef = us.getD j undef := fun j hj => by
      rw [putAll_at T0 sn22_ds us j hj hu.symm (by decide) (hlt _ (List.getElem_mem hj)), ← List.getD_eq_getElem?_getD]
    have r242 := hS 37 (by decide)
    rw [← hat 37 (by decide)] at r242
    exact hend _ w (by rw [putAll_size]; exact hsz) hb (fun x hx => putAll_far sn22_ds us T0 x hx) r242
noncomputable def sn24_ops : Array Oper := opsW Tryd.f3 24
def sn24_ds : List Nat := [243, 244, 245, 246, 247, 248, 249, 250, 251, 13]
def sn24_S : Nat → Value → World → Prop
  | 0, v, w => v = evV ⟨1, 0, 0, 0, 0, 0, 0⟩
  | 1, v, w => v = evV ⟨1, 1, 0, 0, 0, 0, 0⟩
  | 2, v, w => v = evV ⟨2, 0, 0, 0, 0, 0, 0⟩
  | 3, v, w => v = evV ⟨2, 1, 0, 0, 0, 0, 0⟩
  | 4, v, w => SlA [⟨1, 1, 0, 0, 0, 0, 0⟩, ⟨2, 1, 0, 0, 0, 0, 0⟩] (v) w
  | 5, v, w => SlA [⟨1, 1, 0, 0, 0, 0, 0⟩, ⟨2, 1, 0, 0, 0, 0, 0⟩] (v) w
  | 6, v, w => SlA [⟨1, 0, 0, 0, 0, 0, 0⟩, ⟨4, 0, 0, 0, 0, 0, 0⟩, ⟨5, 0, 0, 0, 1, 0, 0⟩, ⟨7, 0, 0, 0, 1, 0, 0⟩, ⟨8, 0, 0, 0, 0, 0, 0⟩, ⟨9, 0, 0, 0, 0, 0, 0⟩] (v) w
  | 7, v, w => LsA [[⟨1, 1, 0, 0, 0, 0, 0⟩, ⟨2, 1, 0, 0, 0, 0, 0⟩], [⟨1, 0, 0, 0, 0, 0, 0⟩, ⟨4, 0, 0, 0, 0, 0, 0⟩, ⟨5, 0, 0, 0, 1, 0, 0⟩, ⟨7, 0, 0, 0, 1, 0, 0⟩, ⟨8, 0, 0, 0, 0, 0, 0⟩, ⟨9, 0, 0, 0, 0, 0, 0⟩]] (v) w
  | 8, v, w => SlA [⟨1, 1, 0, 0, 0, 0, 0⟩, ⟨2, 1, 0, 0, 0, 0, 0⟩, ⟨1, 0, 0, 0, 0, 0, 0⟩, ⟨4, 0, 0, 0, 0, 0, 0⟩, ⟨5, 0, 0, 0, 1, 0, 0⟩, ⟨7, 0, 0, 0, 1, 0, 0⟩, ⟨8, 0, 0, 0, 0, 0, 0⟩, ⟨9, 0, 0, 0, 0, 0, 0⟩] (v) w
  | 9, v, w => SlA [⟨1, 1, 0, 0, 0, 0, 0⟩, ⟨2, 1, 0, 0, 0, 0, 0⟩, ⟨1, 0, 0, 0, 0, 0, 0⟩, ⟨4, 0, 0, 0, 0, 0, 0⟩, ⟨5, 0, 0, 0, 1, 0, 0⟩, ⟨7, 0, 0, 0, 1, 0, 0⟩, ⟨8, 0, 0, 0, 0, 0, 0⟩, ⟨9, 0, 0, 0, 0, 0, 0⟩] (v) w
  | _ + 10, _, _ => False
theorem sn24_mono (i : Nat) (v : Value) (w w' : World) (b : Below w.heap.size w w') (h : sn24_S i v w) : sn24_S i v w' := by
  match i, h with
  | 0, h => exact h
  | 1, h => exact h
  | 2, h => exact h
  | 3, h => exact h
  | 4, h => exact SlA.stays h b
  | 5, h => exact SlA.stays h b
  | 6, h => exact SlA.stays h b
  | 7, h => exact LsA.stays h b
  | 8, h => exact SlA.stays h b
  | 9, h => exact SlA.stays h b
set_option maxRecDepth 100000 in
set_option maxHeartbeats 4000000 in
theorem sn24 {Tb : World → Prop} (HC : CheckC Tb) {id : Nat} {ops : Array Oper} (hops : ops = sn24_ops) (T0 : Array Value) (hsz : T0.size = 726) (W : World) (ht : Tb W) (p6 : PtE ⟨1, 0, 0, 0, 0, 0, 0⟩ (T0[6]?.getD undef) W) (p7 : PtE ⟨2, 0, 0, 0, 0, 0, 0⟩ (T0[7]?.getD undef) W) (p11 : SlA [⟨1, 0, 0, 0, 0, 0, 0⟩, ⟨4, 0, 0, 0, 0, 0, 0⟩, ⟨5, 0, 0, 0, 1, 0, 0⟩, ⟨7, 0, 0, 0, 1, 0, 0⟩, ⟨8, 0, 0, 0, 0, 0, 0⟩, ⟨9, 0, 0, 0, 0, 0, 0⟩] (T0[11]?.getD undef) W) {Q : Exit → Act → World → Prop}
    (hend : ∀ (T : Array Value) (w : World), T.size = 726 → Below W.heap.size W w → (∀ x, x ∉ sn24_ds → T[x]? = T0[x]?) → SlA [⟨1, 1, 0, 0, 0, 0, 0⟩, ⟨2, 1, 0, 0, 0, 0, 0⟩, ⟨1, 0, 0, 0, 0, 0, 0⟩, ⟨4, 0, 0, 0, 0, 0, 0⟩, ⟨5, 0, 0, 0, 1, 0, 0⟩, ⟨7, 0, 0, 0, 1, 0, 0⟩, ⟨8, 0, 0, 0, 0, 0, 0⟩, ⟨9, 0, 0, 0, 0, 0, 0⟩] (T[13]?.getD undef) w → Q .normal ⟨T, []⟩ w) : (Code.region id ops true).wp Tryd.prog Q ⟨T0, []⟩ W := by
  subst hops
  have hos : sn24_ops.size = 10 := by kernel_rfl
  have hga : (List.range 10).all (fun i => match sn24_ops[i]? with | some o => o.guard == ([none, none, none, none, none, none, none, none, none, none] : List (Option (Nat × Bool))).getD i none | none => false) = true := by kernel_rfl
  have q6 : ∀ (a : Act) (w : World), (∀ t, t ∉ sn24_ds → a.tmps[t]?.getD undef = T0[t]?.getD undef) → Below W.heap.size W w → PtE ⟨1, 0, 0, 0, 0, 0, 0⟩ (a.tmps[6]?.getD undef) w := fun a w hT hb => by rw [hT 6 (by decide)]; exact PtE.stays p6 hb
  have q7 : ∀ (a : Act) (w : World), (∀ t, t ∉ sn24_ds → a.tmps[t]?.getD undef = T0[t]?.getD undef) → Below W.heap.size W w → PtE ⟨2, 0, 0, 0, 0, 0, 0⟩ (a.tmps[7]?.getD undef) w := fun a w hT hb => by rw [hT 7 (by decide)]; exact PtE.stays p7 hb
  have q11 : ∀ (a : Act) (w : World), (∀ t, t ∉ sn24_ds → a.tmps[t]?.getD undef = T0[t]?.getD undef) → Below W.heap.size W w → SlA [⟨1, 0, 0, 0, 0, 0, 0⟩, ⟨4, 0, 0, 0, 0, 0, 0⟩, ⟨5, 0, 0, 0, 1, 0, 0⟩, ⟨7, 0, 0, 0, 1, 0, 0⟩, ⟨8, 0, 0, 0, 0, 0, 0⟩, ⟨9, 0, 0, 0, 0, 0, 0⟩] (a.tmps[11]?.getD undef) w := fun a w hT hb => by rw [hT 11 (by decide)]; exact SlA.stays p11 hb
  have hlt : ∀ x ∈ sn24_ds, x < T0.size := fun x hx => by
    have hall : (sn24_ds.all fun d => decide (d < 726)) = true := by decide
    have := List.all_eq_true.1 hall x hx
    simp only [decide_eq_true_eq] at this
    omega
  refine wp_region_kinds3 sn24_S sn24_ds W T0 (by decide) hlt (by kernel_rfl) (by kernel_rfl) (fun i o j want ho hgd => ?_) sn24_mono ?_ ?_
  · have hi : i < 10 := by rw [← hos]; exact (Array.getElem?_eq_some_iff.1 ho).1
    have h1 := List.all_eq_true.1 hga i (by simpa using hi)
    rw [ho] at h1
    simp only [hgd, beq_iff_eq] at h1
    match i, hi with
    | 0, _ => cases h1
    | 1, _ => cases h1
    | 2, _ => cases h1
    | 3, _ => cases h1
    | 4, _ => cases h1
    | 5, _ => cases h1
    | 6, _ => cases h1
    | 7, _ => cases h1
    | 8, _ => cases h1
    | 9, _ => cases h1
    | i + 10, h => exact absurd (show i + 10 < 10 from h) (by omega)
  · intro i o ho hi a w hT hW hb K hK
    match i, hi with
    | 0, _ =>
      exact n_load 6 (opAtW ho (by kernel_rfl)) (q6 a w hT hb) (hK _ _ (Below.refl _ _) rfl)
    | 1, _ =>
      exact o_by 243 (opAtW ho (by kernel_rfl)) (hW 0 (by kernel_rfl)) (by_any 1 ⟨1, 0, 0, 0, 0, 0, 0⟩ w) (fun w' hb' => hK _ w' hb' rfl)
    | 2, _ =>
      exact n_load 7 (opAtW ho (by kernel_rfl)) (q7 a w hT hb) (hK _ _ (Below.refl _ _) rfl)
    | 3, _ =>
      exact o_by 245 (opAtW ho (by kernel_rfl)) (hW 2 (by kernel_rfl)) (by_any 1 ⟨2, 0, 0, 0, 0, 0, 0⟩ w) (fun w' hb' => hK _ w' hb' rfl)
    | 4, _ =>
      have p244 : a.tmps[244]?.getD undef = evV ⟨1, 1, 0, 0, 0, 0, 0⟩ := (hW 1 (by kernel_rfl))
      have p246 : a.tmps[246]?.getD undef = evV ⟨2, 1, 0, 0, 0, 0, 0⟩ := (hW 3 (by kernel_rfl))
      exact n_slice [⟨1, 1, 0, 0, 0, 0, 0⟩, ⟨2, 1, 0, 0, 0, 0, 0⟩] #[(0, .tmp 244), (1, .tmp 246)] (opAtW ho (by kernel_rfl)) rfl (by kernel_rfl) (by decide) (by decide) (by simp [Act.eval, p244, p246]) (fun v w' hb' hs => hK v w' hb' hs)
    | 5, _ =>
      exact n_many 247 (opAtW ho (by kernel_rfl)) (hW 4 (by kernel_rfl)) (fun u w' hb' hs => hK u w' hb' hs)
    | 6, _ =>
      exact v_move 11 (opAtW ho (by kernel_rfl)) rfl (hK _ _ (Below.refl _ _) (q11 a w hT hb))
    | 7, _ =>
      have p248 : SlA [⟨1, 1, 0, 0, 0, 0, 0⟩, ⟨2, 1, 0, 0, 0, 0, 0⟩] (a.tmps[248]?.getD undef) w := (hW 5 (by kernel_rfl))
      have p249 : SlA [⟨1, 0, 0, 0, 0, 0, 0⟩, ⟨4, 0, 0, 0, 0, 0, 0⟩, ⟨5, 0, 0, 0, 1, 0, 0⟩, ⟨7, 0, 0, 0, 1, 0, 0⟩, ⟨8, 0, 0, 0, 0, 0, 0⟩, ⟨9, 0, 0, 0, 0, 0, 0⟩] (a.tmps[249]?.getD undef) w := (hW 6 (by kernel_rfl))
      refine n_lists [[⟨1, 1, 0, 0, 0, 0, 0⟩, ⟨2, 1, 0, 0, 0, 0, 0⟩], [⟨1, 0, 0, 0, 0, 0, 0⟩, ⟨4, 0, 0, 0, 0, 0, 0⟩, ⟨5, 0, 0, 0, 1, 0, 0⟩, ⟨7, 0, 0, 0, 1, 0, 0⟩, ⟨8, 0, 0, 0, 0, 0, 0⟩, ⟨9, 0, 0, 0, 0, 0, 0⟩]] [a.tmps[248]?.getD undef, a.tmps[249]?.getD undef] #[(0, .tmp 248), (1, .tmp 249)] (opAtW ho (by kernel_rfl)) rfl rfl (by decide) (by decide) (fun j h => ?_) (by simp [Act.eval]) (fun v w' hb' hs => hK v w' hb' hs)
      match j, h with
      | 0, _ => exact p248
      | 1, _ => exact p249
      | j + 2, h => exact absurd h (by simp)
    | 8, _ =>
      exact n_join 250 [⟨1, 1, 0, 0, 0, 0, 0⟩, ⟨2, 1, 0, 0, 0, 0, 0⟩, ⟨1, 0, 0, 0, 0, 0, 0⟩, ⟨4, 0, 0, 0, 0, 0, 0⟩, ⟨5, 0, 0, 0, 1, 0, 0⟩, ⟨7, 0, 0, 0, 1, 0, 0⟩, ⟨8, 0, 0, 0, 0, 0, 0⟩, ⟨9, 0, 0, 0, 0, 0, 0⟩] (opAtW ho (by kernel_rfl)) (hW 7 (by kernel_rfl)) (by decide) (by decide) rfl (fun u w' hb' hs => hK u w' hb' hs)
    | 9, _ =>
      exact v_assign 251 (opAtW ho (by kernel_rfl)) rfl (hK _ _ (Below.refl _ _) (hW 8 (by kernel_rfl)))
    | i + 10, h => exact absurd (show i + 10 < 10 from h) (by omega)
  · intro us w hu hb hS
    have hat : ∀ j (hj : j < sn24_ds.length), (putAll T0 sn24_ds us)[sn24_ds[j]]?.getD undef = us.getD j undef := fun j hj => by
      rw [putAll_at T0 sn24_ds us j hj hu.symm (by decide) (hlt _ (List.getElem_mem hj)), ← List.getD_eq_getElem?_getD]
    have r13 := hS 9 (by decide)
    rw [← hat 9 (by decide)] at r13
    exact hend _ w (by rw [putAll_size]; exact hsz) hb (fun x hx => putAll_far sn24_ds us T0 x hx) r13
end Go.Proofs.YtjennlkindbpoaaDoor
/-
  FOR ShapeNames: its regions 26, 28, 29, 31, by kinds. Laid by gen/gen_sn.py. Conditions: CheckC.
-/
namespace Go.Proofs.YtjennlkindbpoaaDoor
set_option maxRecDepth 100000
open Go.RowKit Go.Deep
set_option linter.unusedVariables false

noncomputable def sn26_ops : Array Oper := opsW Tryd.f3 26
def sn26_ds : List Nat := [254, 255, 256, 257, 258, 259, 260, 261, 262, 263, 264, 265, 266, 267, 268, 269, 270, 271, 272, 273, 274, 275, 276, 277, 278, 279, 280, 281, 282, 283, 284, 285, 286, 287, 288, 289, 290, 291, 292, 293, 294, 295, 296]
def sn26_S : Nat → Value → World → Prop
  | 0, v, w => SlA [⟨1, 1, 0, 0, 0, 0, 0⟩, ⟨2, 1, 0, 0, 0, 0, 0⟩, ⟨1, 0, 0, 0, 0, 0, 0⟩, ⟨4, 0, 0, 0, 0, 0, 0⟩, ⟨5, 0, 0, 0, 1, 0, 0⟩, ⟨7, 0, 0, 0, 1, 0, 0⟩, ⟨8, 0, 0, 0, 0, 0, 0⟩, ⟨9, 0, 0, 0, 0, 0, 0⟩] (v) w
  | 1, v, w => v = evV ⟨3, 0, 0, 2, 0, 0, 0⟩
  | 2, v, w => v = evV ⟨3, 1, 0, 2, 0, 0, 0⟩
  | 3, v, w => SlA [⟨3, 1, 0, 2, 0, 0, 0⟩] (v) w
  | 4, v, w => SlA [⟨3, 1, 0, 2, 0, 0, 0⟩] (v) w
  | 5, v, w => LsA [[⟨1, 1, 0, 0, 0, 0, 0⟩, ⟨2, 1, 0, 0, 0, 0, 0⟩, ⟨1, 0, 0, 0, 0, 0, 0⟩, ⟨4, 0, 0, 0, 0, 0, 0⟩, ⟨5, 0, 0, 0, 1, 0, 0⟩, ⟨7, 0, 0, 0, 1, 0, 0⟩, ⟨8, 0, 0, 0, 0, 0, 0⟩, ⟨9, 0, 0, 0, 0, 0, 0⟩], [⟨3, 1, 0, 2, 0, 0, 0⟩]] (v) w
  | 6, v, w => SlA [⟨1, 1, 0, 0, 0, 0, 0⟩, ⟨2, 1, 0, 0, 0, 0, 0⟩, ⟨1, 0, 0, 0, 0, 0, 0⟩, ⟨4, 0, 0, 0, 0, 0, 0⟩, ⟨5, 0, 0, 0, 1, 0, 0⟩, ⟨7, 0, 0, 0, 1, 0, 0⟩, ⟨8, 0, 0, 0, 0, 0, 0⟩, ⟨9, 0, 0, 0, 0, 0, 0⟩, ⟨3, 1, 0, 2, 0, 0, 0⟩] (v) w
  | 7, v, w => v = .bool true
  | 8, v, w => v = .bool false
  | 9, v, w => v = .bool false
  | 10, v, w => SlA [⟨1, 1, 0, 0, 0, 0, 0⟩, ⟨2, 1, 0, 0, 0, 0, 0⟩, ⟨1, 0, 0, 0, 0, 0, 0⟩, ⟨4, 0, 0, 0, 0, 0, 0⟩, ⟨5, 0, 0, 0, 1, 0, 0⟩, ⟨7, 0, 0, 0, 1, 0, 0⟩, ⟨8, 0, 0, 0, 0, 0, 0⟩, ⟨9, 0, 0, 0, 0, 0, 0⟩] (v) w
  | 11, v, w => v = evV ⟨10, 1, 0, 0, 0, 0, 3⟩
  | 12, v, w => SlA [⟨10, 1, 0, 0, 0, 0, 3⟩] (v) w
  | 13, v, w => SlA [⟨10, 1, 0, 0, 0, 0, 3⟩] (v) w
  | 14, v, w => LsA [[⟨1, 1, 0, 0, 0, 0, 0⟩, ⟨2, 1, 0, 0, 0, 0, 0⟩, ⟨1, 0, 0, 0, 0, 0, 0⟩, ⟨4, 0, 0, 0, 0, 0, 0⟩, ⟨5, 0, 0, 0, 1, 0, 0⟩, ⟨7, 0, 0, 0, 1, 0, 0⟩, ⟨8, 0, 0, 0, 0, 0, 0⟩, ⟨9, 0, 0, 0, 0, 0, 0⟩], [⟨10, 1, 0, 0, 0, 0, 3⟩]] (v) w
  | 15, v, w => SlA [⟨1, 1, 0, 0, 0, 0, 0⟩, ⟨2, 1, 0, 0, 0, 0, 0⟩, ⟨1, 0, 0, 0, 0, 0, 0⟩, ⟨4, 0, 0, 0, 0, 0, 0⟩, ⟨5, 0, 0, 0, 1, 0, 0⟩, ⟨7, 0, 0, 0, 1, 0, 0⟩, ⟨8, 0, 0, 0, 0, 0, 0⟩, ⟨9, 0, 0, 0, 0, 0, 0⟩, ⟨10, 1, 0, 0, 0, 0, 3⟩] (v) w
  | 16, v, w => TrA 3 4 2 [⟨1, 1, 0, 0, 0, 0, 0⟩, ⟨2, 1, 0, 0, 0, 0, 0⟩, ⟨1, 0, 0, 0, 0, 0, 0⟩, ⟨4, 0, 0, 0, 0, 0, 0⟩, ⟨5, 0, 0, 0, 1, 0, 0⟩, ⟨7, 0, 0, 0, 1, 0, 0⟩, ⟨8, 0, 0, 0, 0, 0, 0⟩, ⟨9, 0, 0, 0, 0, 0, 0⟩, ⟨10, 1, 0, 0, 0, 0, 3⟩] (v) w
  | 17, v, w => v = .bool true
  | 18, v, w => v = .bool false
  | 19, v, w => v = .bool false
  | 20, v, w => v = .bool false
  | 21, v, w => v = evV ⟨1, 0, 0, 0, 0, 0, 0⟩
  | 22, v, w => v = evV ⟨1, 1, 0, 0, 0, 0, 0⟩
  | 23, v, w => v = evV ⟨2, 0, 0, 0, 0, 0, 0⟩
  | 24, v, w => v = evV ⟨2, 1, 0, 0, 0, 0, 0⟩
  | 25, v, w => v = evV ⟨10, 1, 0, 0, 0, 0, 3⟩
  | 26, v, w => SlA [⟨1, 1, 0, 0, 0, 0, 0⟩, ⟨2, 1, 0, 0, 0, 0, 0⟩, ⟨10, 1, 0, 0, 0, 0, 3⟩] (v) w
  | 27, v, w => v = .bool true
  | 28, v, w => v = .bool false
  | 29, v, w => v = .bool false
  | 30, v, w => v = .bool false
  | 31, v, w => v = evV ⟨1, 0, 0, 0, 0, 0, 0⟩
  | 32, v, w => v = evV ⟨1, 1, 0, 0, 0, 0, 0⟩
  | 33, v, w => v = evV ⟨2, 0, 0, 0, 0, 0, 0⟩
  | 34, v, w => v = evV ⟨2, 1, 0, 0, 0, 0, 0⟩
  | 35, v, w => v = evV ⟨1, 0, 0, 0, 0, 0, 0⟩
  | 36, v, w => v = evV ⟨4, 0, 0, 0, 0, 0, 0⟩
  | 37, v, w => v = evV ⟨10, 1, 0, 0, 0, 0, 3⟩
  | 38, v, w => SlA [⟨1, 1, 0, 0, 0, 0, 0⟩, ⟨2, 1, 0, 0, 0, 0, 0⟩, ⟨1, 0, 0, 0, 0, 0, 0⟩, ⟨4, 0, 0, 0, 0, 0, 0⟩, ⟨10, 1, 0, 0, 0, 0, 3⟩] (v) w
  | 39, v, w => TrA 3 4 2 [⟨1, 1, 0, 0, 0, 0, 0⟩, ⟨2, 1, 0, 0, 0, 0, 0⟩, ⟨1, 0, 0, 0, 0, 0, 0⟩, ⟨4, 0, 0, 0, 0, 0, 0⟩, ⟨10, 1, 0, 0, 0, 0, 3⟩] (v) w
  | 40, v, w => v = .bool true
  | 41, v, w => v = .bool false
  | 42, v, w => v = .bool false
  | _ + 43, _, _ => False
theorem sn26_mono (i : Nat) (v : Value) (w w' : World) (b : Below w.heap.size w w') (h : sn26_S i v w) : sn26_S i v w' := by
  match i, h with
  | 0, h => exact SlA.stays h b
  | 1, h => exact h
  | 2, h => exact h
  | 3, h => exact SlA.stays h b
  | 4, h => exact SlA.stays h b
  | 5, h => exact LsA.stays h b
  | 6, h => exact SlA.stays h b
  | 7, h => exact h
  | 8, h => exact h
  | 9, h => exact h
  | 10, h => exact SlA.stays h b
  | 11, h => exact h
  | 12, h => exact SlA.stays h b
  | 13, h => exact SlA.stays h b
  | 14, h => exact LsA.stays h b
  | 15, h => exact SlA.stays h b
  | 16, h => exact TrA.stays h b
  | 17, h => exact h
  | 18, h => exact h
  | 19, h => exact h
  | 20, h => exact h
  | 21, h => exact h
  | 22, h => exact h
  | 23, h => exact h
  | 24, h => exact h
  | 25, h => exact h
  | 26, h => exact SlA.stays h b
  | 27, h => exact h
  | 28, h => exact h
  | 29, h => exact h
  | 30, h => exact h
  | 31, h => exact h
  | 32, h => exact h
  | 33, h => exact h
  | 34, h => exact h
  | 35, h => exact h
  | 36, h => exact h
  | 37, h => exact h
  | 38, h => exact SlA.stays h b
  | 39, h => exact TrA.stays h b
  | 40, h => exact h
  | 41, h => exact h
  | 42, h => exact h
set_option maxRecDepth 100000 in
set_option maxHeartbeats 4000000 in
theorem sn26 {Tb : World → Prop} (HC : CheckC Tb) {id : Nat} {ops : Array Oper} (hops : ops = sn26_ops) (T0 : Array Value) (hsz : T0.size = 726) (W : World) (ht : Tb W) (p6 : PtE ⟨1, 0, 0, 0, 0, 0, 0⟩ (T0[6]?.getD undef) W) (p7 : PtE ⟨2, 0, 0, 0, 0, 0, 0⟩ (T0[7]?.getD undef) W) (p8 : PtE ⟨3, 0, 0, 2, 0, 0, 0⟩ (T0[8]?.getD undef) W) (p9 : PtE ⟨4, 0, 0, 0, 0, 0, 0⟩ (T0[9]?.getD undef) W) (p13 : SlA [⟨1, 1, 0, 0, 0, 0, 0⟩, ⟨2, 1, 0, 0, 0, 0, 0⟩, ⟨1, 0, 0, 0, 0, 0, 0⟩, ⟨4, 0, 0, 0, 0, 0, 0⟩, ⟨5, 0, 0, 0, 1, 0, 0⟩, ⟨7, 0, 0, 0, 1, 0, 0⟩, ⟨8, 0, 0, 0, 0, 0, 0⟩, ⟨9, 0, 0, 0, 0, 0, 0⟩] (T0[13]?.getD undef) W) (p14 : PtE ⟨10, 1, 0, 0, 0, 0, 3⟩ (T0[14]?.getD undef) W) {Q : Exit → Act → World → Prop}
    (hend : ∀ (T : Array Value) (w : World), T.size = 726 → Below W.heap.size W w → (∀ x, x ∉ sn26_ds → T[x]? = T0[x]?) → T[296]?.getD undef = .bool false → Q .normal ⟨T, []⟩ w) : (Code.region id ops true).wp Tryd.prog Q ⟨T0, []⟩ W := by
  subst hops
  have hos : sn26_ops.size = 43 := by kernel_rfl
  have hga : (List.range 43).all (fun i => match sn26_ops[i]? with | some o => o.guard == ([none, none, none, none, none, none, none, none, none, none, some (9, false), some (9, false), some (9, false), some (9, false), some (9, false), some (9, false), some (9, false), some (9, false), some (9, false), none, none, some (20, false), some (20, false), some (20, false), some (20, false), some (20, false), some (20, false), some (20, false), some (20, false), none, none, some (30, false), some (30, false), some (30, false), some (30, false), some (30, false), some (30, false), some (30, false), some (30, false), some (30, false), some (30, false), some (30, false), none] : List (Option (Nat × Bool))).getD i none | none => false) = true := by kernel_rfl
  have q6 : ∀ (a : Act) (w : World), (∀ t, t ∉ sn26_ds → a.tmps[t]?.getD undef = T0[t]?.getD undef) → Below W.heap.size W w → PtE ⟨1, 0, 0, 0, 0, 0, 0⟩ (a.tmps[6]?.getD undef) w := fun a w hT hb => by rw [hT 6 (by decide)]; exact PtE.stays p6 hb
  have q7 : ∀ (a : Act) (w : World), (∀ t, t ∉ sn26_ds → a.tmps[t]?.getD undef = T0[t]?.getD undef) → Below W.heap.size W w → PtE ⟨2, 0, 0, 0, 0, 0, 0⟩ (a.tmps[7]?.getD undef) w := fun a w hT hb => by rw [hT 7 (by decide)]; exact PtE.stays p7 hb
  have q8 : ∀ (a : Act) (w : World), (∀ t, t ∉ sn26_ds → a.tmps[t]?.getD undef = T0[t]?.getD undef) → Below W.heap.size W w → PtE ⟨3, 0, 0, 2, 0, 0, 0⟩ (a.tmps[8]?.getD undef) w := fun a w hT hb => by rw [hT 8 (by decide)]; exact PtE.stays p8 hb
  have q9 : ∀ (a : Act) (w : World), (∀ t, t ∉ sn26_ds → a.tmps[t]?.getD undef = T0[t]?.getD undef) → Below W.heap.size W w → PtE ⟨4, 0, 0, 0, 0, 0, 0⟩ (a.tmps[9]?.getD undef) w := fun a w hT hb => by rw [hT 9 (by decide)]; exact PtE.stays p9 hb
  have q13 : ∀ (a : Act) (w : World), (∀ t, t ∉ sn26_ds → a.tmps[t]?.getD undef = T0[t]?.getD undef) → Below W.heap.size W w → SlA [⟨1, 1, 0, 0, 0, 0, 0⟩, ⟨2, 1, 0, 0, 0, 0, 0⟩, ⟨1, 0, 0, 0, 0, 0, 0⟩, ⟨4, 0, 0, 0, 0, 0, 0⟩, ⟨5, 0, 0, 0, 1, 0, 0⟩, ⟨7, 0, 0, 0, 1, 0, 0⟩, ⟨8, 0, 0, 0, 0, 0, 0⟩, ⟨9, 0, 0, 0, 0, 0, 0⟩] (a.tmps[13]?.getD undef) w := fun a w hT hb => by rw [hT 13 (by decide)]; exact SlA.stays p13 hb
  have q14 : ∀ (a : Act) (w : World), (∀ t, t ∉ sn26_ds → a.tmps[t]?.getD undef = T0[t]?.getD undef) → Below W.heap.size W w → PtE ⟨10, 1, 0, 0, 0, 0, 3⟩ (a.tmps[14]?.getD undef) w := fun a w hT hb => by rw [hT 14 (by decide)]; exact PtE.stays p14 hb
  have hlt : ∀ x ∈ sn26_ds, x < T0.size := fun x hx => by
    have hall : (sn26_ds.all fun d => decide (d < 726)) = true := by decide
    have := List.all_eq_true.1 hall x hx
    simp only [decide_eq_true_eq] at this
    omega
  refine wp_region_kinds3 sn26_S sn26_ds W T0 (by decide) hlt (by kernel_rfl) (by kernel_rfl) (fun i o j want ho hgd => ?_) sn26_mono ?_ ?_
  · have hi : i < 43 := by rw [← hos]; exact (Array.getElem?_eq_some_iff.1 ho).1
    have h1 := List.all_eq_true.1 hga i (by simpa using hi)
    rw [ho] at h1
    simp only [hgd, beq_iff_eq] at h1
    match i, hi with
    | 0, _ => cases h1
    | 1, _ => cases h1
    | 2, _ => cases h1
    | 3, _ => cases h1
    | 4, _ => cases h1
    | 5, _ => cases h1
    | 6, _ => cases h1
    | 7, _ => cases h1
    | 8, _ => cases h1
    | 9, _ => cases h1
    | 10, _ => obtain ⟨rfl, rfl⟩ := Prod.mk.inj (Option.some.inj h1); exact fun v w h => h
    | 11, _ => obtain ⟨rfl, rfl⟩ := Prod.mk.inj (Option.some.inj h1); exact fun v w h => h
    | 12, _ => obtain ⟨rfl, rfl⟩ := Prod.mk.inj (Option.some.inj h1); exact fun v w h => h
    | 13, _ => obtain ⟨rfl, rfl⟩ := Prod.mk.inj (Option.some.inj h1); exact fun v w h => h
    | 14, _ => obtain ⟨rfl, rfl⟩ := Prod.mk.inj (Option.some.inj h1); exact fun v w h => h
    | 15, _ => obtain ⟨rfl, rfl⟩ := Prod.mk.inj (Option.some.inj h1); exact fun v w h => h
    | 16, _ => obtain ⟨rfl, rfl⟩ := Prod.mk.inj (Option.some.inj h1); exact fun v w h => h
    | 17, _ => obtain ⟨rfl, rfl⟩ := Prod.mk.inj (Option.some.inj h1); exact fun v w h => h
    | 18, _ => obtain ⟨rfl, rfl⟩ := Prod.mk.inj (Option.some.inj h1); exact fun v w h => h
    | 19, _ => cases h1
    | 20, _ => cases h1
    | 21, _ => obtain ⟨rfl, rfl⟩ := Prod.mk.inj (Option.some.inj h1); exact fun v w h => h
    | 22, _ => obtain ⟨rfl, rfl⟩ := Prod.mk.inj (Option.some.inj h1); exact fun v w h => h
    | 23, _ => obtain ⟨rfl, rfl⟩ := Prod.mk.inj (Option.some.inj h1); exact fun v w h => h
    | 24, _ => obtain ⟨rfl, rfl⟩ := Prod.mk.inj (Option.some.inj h1); exact fun v w h => h
    | 25, _ => obtain ⟨rfl, rfl⟩ := Prod.mk.inj (Option.some.inj h1); exact fun v w h => h
    | 26, _ => obtain ⟨rfl, rfl⟩ := Prod.mk.inj (Option.some.inj h1); exact fun v w h => h
    | 27, _ => obtain ⟨rfl, rfl⟩ := Prod.mk.inj (Option.some.inj h1); exact fun v w h => h
    | 28, _ => obtain ⟨rfl, rfl⟩ := Prod.mk.inj (Option.some.inj h1); exact fun v w h => h
    | 29, _ => cases h1
    | 30, _ => cases h1
    | 31, _ => obtain ⟨rfl, rfl⟩ := Prod.mk.inj (Option.some.inj h1); exact fun v w h => h
    | 32, _ => obtain ⟨rfl, rfl⟩ := Prod.mk.inj (Option.some.inj h1); exact fun v w h => h
    | 33, _ => obtain ⟨rfl, rfl⟩ := Prod.mk.inj (Option.some.inj h1); exact fun v w h => h
    | 34, _ => obtain ⟨rfl, rfl⟩ := Prod.mk.inj (Option.some.inj h1); exact fun v w h => h
    | 35, _ => obtain ⟨rfl, rfl⟩ := Prod.mk.inj (Option.some.inj h1); exact fun v w h => h
    | 36, _ => obtain ⟨rfl, rfl⟩ := Prod.mk.inj (Option.some.inj h1); exact fun v w h => h
    | 37, _ => obtain ⟨rfl, rfl⟩ := Prod.mk.inj (Option.some.inj h1); exact fun v w h => h
    | 38, _ => obtain ⟨rfl, rfl⟩ := Prod.mk.inj (Option.some.inj h1); exact fun v w h => h
    | 39, _ => obtain ⟨rfl, rfl⟩ := Prod.mk.inj (Option.some.inj h1); exact fun v w h => h
    | 40, _ => obtain ⟨rfl, rfl⟩ := Prod.mk.inj (Option.some.inj h1); exact fun v w h => h
    | 41, _ => obtain ⟨rfl, rfl⟩ := Prod.mk.inj (Option.some.inj h1); exact fun v w h => h
    | 42, _ => cases h1
    | i + 43, h => exact absurd (show i + 43 < 43 from h) (by omega)
  · intro i o ho hi a w hT hW hb K hK
    match i, hi with
    | 0, _ =>
      exact v_move 13 (opAtW ho (by kernel_rfl)) rfl (hK _ _ (Below.refl _ _) (q13 a w hT hb))
    | 1, _ =>
      exact n_load 8 (opAtW ho (by kernel_rfl)) (q8 a w hT hb) (hK _ _ (Below.refl _ _) rfl)
    | 2, _ =>
      exact o_by 255 (opAtW ho (by kernel_rfl)) (hW 1 (by kernel_rfl)) (by_any 1 ⟨3, 0, 0, 2, 0, 0, 0⟩ w) (fun w' hb' => hK _ w' hb' rfl)
    | 3, _ =>
      have p256 : a.tmps[256]?.getD undef = evV ⟨3, 1, 0, 2, 0, 0, 0⟩ := (hW 2 (by kernel_rfl))
      exact n_slice [⟨3, 1, 0, 2, 0, 0, 0⟩] #[(0, .tmp 256)] (opAtW ho (by kernel_rfl)) rfl (by kernel_rfl) (by decide) (by decide) (by simp [Act.eval, p256]) (fun v w' hb' hs => hK v w' hb' hs)
    | 4, _ =>
      exact n_many 257 (opAtW ho (by kernel_rfl)) (hW 3 (by kernel_rfl)) (fun u w' hb' hs => hK u w' hb' hs)
    | 5, _ =>
      have p254 : SlA [⟨1, 1, 0, 0, 0, 0, 0⟩, ⟨2, 1, 0, 0, 0, 0, 0⟩, ⟨1, 0, 0, 0, 0, 0, 0⟩, ⟨4, 0, 0, 0, 0, 0, 0⟩, ⟨5, 0, 0, 0, 1, 0, 0⟩, ⟨7, 0, 0, 0, 1, 0, 0⟩, ⟨8, 0, 0, 0, 0, 0, 0⟩, ⟨9, 0, 0, 0, 0, 0, 0⟩] (a.tmps[254]?.getD undef) w := (hW 0 (by kernel_rfl))
      have p258 : SlA [⟨3, 1, 0, 2, 0, 0, 0⟩] (a.tmps[258]?.getD undef) w := (hW 4 (by kernel_rfl))
      refine n_lists [[⟨1, 1, 0, 0, 0, 0, 0⟩, ⟨2, 1, 0, 0, 0, 0, 0⟩, ⟨1, 0, 0, 0, 0, 0, 0⟩, ⟨4, 0, 0, 0, 0, 0, 0⟩, ⟨5, 0, 0, 0, 1, 0, 0⟩, ⟨7, 0, 0, 0, 1, 0, 0⟩, ⟨8, 0, 0, 0, 0, 0, 0⟩, ⟨9, 0, 0, 0, 0, 0, 0⟩], [⟨3, 1, 0, 2, 0, 0, 0⟩]] [a.tmps[254]?.getD undef, a.tmps[258]?.getD undef] #[(0, .tmp 254), (1, .tmp 258)] (opAtW ho (by kernel_rfl)) rfl rfl (by decide) (by decide) (fun j h => ?_) (by simp [Act.eval]) (fun v w' hb' hs => hK v w' hb' hs)
      match j, h with
      | 0, _ => exact p254
      | 1, _ => exact p258
      | j + 2, h => exact absurd h (by simp)
    | 6, _ =>
      exact n_join 259 [⟨1, 1, 0, 0, 0, 0, 0⟩, ⟨2, 1, 0, 0, 0, 0, 0⟩, ⟨1, 0, 0, 0, 0, 0, 0⟩, ⟨4, 0, 0, 0, 0, 0, 0⟩, ⟨5, 0, 0, 0, 1, 0, 0⟩, ⟨7, 0, 0, 0, 1, 0, 0⟩, ⟨8, 0, 0, 0, 0, 0, 0⟩, ⟨9, 0, 0, 0, 0, 0, 0⟩, ⟨3, 1, 0, 2, 0, 0, 0⟩] (opAtW ho (by kernel_rfl)) (hW 5 (by kernel_rfl)) (by decide) (by decide) rfl (fun u w' hb' hs => hK u w' hb' hs)
    | 7, _ =>
      exact n_bad HC (HC.below W w ht hb) 260 true (opAtW ho (by kernel_rfl)) (hW 6 (by kernel_rfl)) (by decide) (by decide) (by kernel_rfl) (fun w' hb' => hK _ w' hb' rfl)
    | 8, _ =>
      exact u_notT 261 (opAtW ho (by kernel_rfl)) (hW 7 (by kernel_rfl)) (hK _ _ (Below.refl _ _) rfl)
    | 9, _ =>
      exact v_move 262 (opAtW ho (by kernel_rfl)) (hW 8 (by kernel_rfl)) (hK _ _ (Below.refl _ _) rfl)
    | 10, _ =>
      exact v_move 13 (opAtW ho (by kernel_rfl)) rfl (hK _ _ (Below.refl _ _) (q13 a w hT hb))
    | 11, _ =>
      exact n_load 14 (opAtW ho (by kernel_rfl)) (q14 a w hT hb) (hK _ _ (Below.refl _ _) rfl)
    | 12, _ =>
      have p265 : a.tmps[265]?.getD undef = evV ⟨10, 1, 0, 0, 0, 0, 3⟩ := (hW 11 (by kernel_rfl))
      exact n_slice [⟨10, 1, 0, 0, 0, 0, 3⟩] #[(0, .tmp 265)] (opAtW ho (by kernel_rfl)) rfl (by kernel_rfl) (by decide) (by decide) (by simp [Act.eval, p265]) (fun v w' hb' hs => hK v w' hb' hs)
    | 13, _ =>
      exact n_many 266 (opAtW ho (by kernel_rfl)) (hW 12 (by kernel_rfl)) (fun u w' hb' hs => hK u w' hb' hs)
    | 14, _ =>
      have p264 : SlA [⟨1, 1, 0, 0, 0, 0, 0⟩, ⟨2, 1, 0, 0, 0, 0, 0⟩, ⟨1, 0, 0, 0, 0, 0, 0⟩, ⟨4, 0, 0, 0, 0, 0, 0⟩, ⟨5, 0, 0, 0, 1, 0, 0⟩, ⟨7, 0, 0, 0, 1, 0, 0⟩, ⟨8, 0, 0, 0, 0, 0, 0⟩, ⟨9, 0, 0, 0, 0, 0, 0⟩] (a.tmps[264]?.getD undef) w := (hW 10 (by kernel_rfl))
      have p267 : SlA [⟨10, 1, 0, 0, 0, 0, 3⟩] (a.tmps[267]?.getD undef) w := (hW 13 (by kernel_rfl))
      refine n_lists [[⟨1, 1, 0, 0, 0, 0, 0⟩, ⟨2, 1, 0, 0, 0, 0, 0⟩, ⟨1, 0, 0, 0, 0, 0, 0⟩, ⟨4, 0, 0, 0, 0, 0, 0⟩, ⟨5, 0, 0, 0, 1, 0, 0⟩, ⟨7, 0, 0, 0, 1, 0, 0⟩, ⟨8, 0, 0, 0, 0, 0, 0⟩, ⟨9, 0, 0, 0, 0, 0, 0⟩], [⟨10, 1, 0, 0, 0, 0, 3⟩]] [a.tmps[264]?.getD undef, a.tmps[267]?.getD undef] #[(0, .tmp 264), (1, .tmp 267)] (opAtW ho (by kernel_rfl)) rfl rfl (by decide) (by decide) (fun j h => ?_) (by simp [Act.eval]) (fun v w' hb' hs => hK v w' hb' hs)
      match j, h with
      | 0, _ => exact p264
      | 1, _ => exact p267
      | j + 2, h => exact absurd h (by simp)
    | 15, _ =>
      exact n_join 268 [⟨1, 1, 0, 0, 0, 0, 0⟩, ⟨2, 1, 0, 0, 0, 0, 0⟩, ⟨1, 0, 0, 0, 0, 0, 0⟩, ⟨4, 0, 0, 0, 0, 0, 0⟩, ⟨5, 0, 0, 0, 1, 0, 0⟩, ⟨7, 0, 0, 0, 1, 0, 0⟩, ⟨8, 0, 0, 0, 0, 0, 0⟩, ⟨9, 0, 0, 0, 0, 0, 0⟩, ⟨10, 1, 0, 0, 0, 0, 3⟩] (opAtW ho (by kernel_rfl)) (hW 14 (by kernel_rfl)) (by decide) (by decide) rfl (fun u w' hb' hs => hK u w' hb' hs)
    | 16, _ =>
      exact n_over 269 (opAtW ho (by kernel_rfl)) (hW 15 (by kernel_rfl)) (fun u w' hb' hs => hK u w' hb' hs)
    | 17, _ =>
      exact n_fine HC (HC.below W w ht hb) 270 true (opAtW ho (by kernel_rfl)) (hW 16 (by kernel_rfl)) (by decide) (by decide) (by decide) (by decide) (by kernel_rfl) (fun w' hb' => hK _ w' hb' rfl)
    | 18, _ =>
      exact u_notT 271 (opAtW ho (by kernel_rfl)) (hW 17 (by kernel_rfl)) (hK _ _ (Below.refl _ _) rfl)
    | 19, _ =>
      exact v_orF 263 272 (opAtW ho (by kernel_rfl)) (hW 9 (by kernel_rfl)) (hW 18 (by kernel_rfl)) (hK _ _ (Below.refl _ _) rfl)
    | 20, _ =>
      exact v_move 273 (opAtW ho (by kernel_rfl)) (hW 19 (by kernel_rfl)) (hK _ _ (Below.refl _ _) rfl)
    | 21, _ =>
      exact n_load 6 (opAtW ho (by kernel_rfl)) (q6 a w hT hb) (hK _ _ (Below.refl _ _) rfl)
    | 22, _ =>
      exact o_by 275 (opAtW ho (by kernel_rfl)) (hW 21 (by kernel_rfl)) (by_any 1 ⟨1, 0, 0, 0, 0, 0, 0⟩ w) (fun w' hb' => hK _ w' hb' rfl)
    | 23, _ =>
      exact n_load 7 (opAtW ho (by kernel_rfl)) (q7 a w hT hb) (hK _ _ (Below.refl _ _) rfl)
    | 24, _ =>
      exact o_by 277 (opAtW ho (by kernel_rfl)) (hW 23 (by kernel_rfl)) (by_any 1 ⟨2, 0, 0, 0, 0, 0, 0⟩ w) (fun w' hb' => hK _ w' hb' rfl)
    | 25, _ =>
      exact n_load 14 (opAtW ho (by kernel_rfl)) (q14 a w hT hb) (hK _ _ (Below.refl _ _) rfl)
    | 26, _ =>
      have p276 : a.tmps[276]?.getD undef = evV ⟨1, 1, 0, 0, 0, 0, 0⟩ := (hW 22 (by kernel_rfl))
      have p278 : a.tmps[278]?.getD undef = evV ⟨2, 1, 0, 0, 0, 0, 0⟩ := (hW 24 (by kernel_rfl))
      have p279 : a.tmps[279]?.getD undef = evV ⟨10, 1, 0, 0, 0, 0, 3⟩ := (hW 25 (by kernel_rfl))
      exact n_slice [⟨1, 1, 0, 0, 0, 0, 0⟩, ⟨2, 1, 0, 0, 0, 0, 0⟩, ⟨10, 1, 0, 0, 0, 0, 3⟩] #[(0, .tmp 276), (1, .tmp 278), (2, .tmp 279)] (opAtW ho (by kernel_rfl)) rfl (by kernel_rfl) (by decide) (by decide) (by simp [Act.eval, p276, p278, p279]) (fun v w' hb' hs => hK v w' hb' hs)
    | 27, _ =>
      exact n_bad HC (HC.below W w ht hb) 280 true (opAtW ho (by kernel_rfl)) (hW 26 (by kernel_rfl)) (by decide) (by decide) (by kernel_rfl) (fun w' hb' => hK _ w' hb' rfl)
    | 28, _ =>
      exact u_notT 281 (opAtW ho (by kernel_rfl)) (hW 27 (by kernel_rfl)) (hK _ _ (Below.refl _ _) rfl)
    | 29, _ =>
      exact v_orF 274 282 (opAtW ho (by kernel_rfl)) (hW 20 (by kernel_rfl)) (hW 28 (by kernel_rfl)) (hK _ _ (Below.refl _ _) rfl)
    | 30, _ =>
      exact v_move 283 (opAtW ho (by kernel_rfl)) (hW 29 (by kernel_rfl)) (hK _ _ (Below.refl _ _) rfl)
    | 31, _ =>
      exact n_load 6 (opAtW ho (by kernel_rfl)) (q6 a w hT hb) (hK _ _ (Below.refl _ _) rfl)
    | 32, _ =>
      exact o_by 285 (opAtW ho (by kernel_rfl)) (hW 31 (by kernel_rfl)) (by_any 1 ⟨1, 0, 0, 0, 0, 0, 0⟩ w) (fun w' hb' => hK _ w' hb' rfl)
    | 33, _ =>
      exact n_load 7 (opAtW ho (by kernel_rfl)) (q7 a w hT hb) (hK _ _ (Below.refl _ _) rfl)
    | 34, _ =>
      exact o_by 287 (opAtW ho (by kernel_rfl)) (hW 33 (by kernel_rfl)) (by_any 1 ⟨2, 0, 0, 0, 0, 0, 0⟩ w) (fun w' hb' => hK _ w' hb' rfl)
    | 35, _ =>
      exact n_load 6 (opAtW ho (by kernel_rfl)) (q6 a w hT hb) (hK _ _ (Below.refl _ _) rfl)
    | 36, _ =>
      exact n_load 9 (opAtW ho (by kernel_rfl)) (q9 a w hT hb) (hK _ _ (Below.refl _ _) rfl)
    | 37, _ =>
      exact n_load 14 (opAtW ho (by kernel_rfl)) (q14 a w hT hb) (hK _ _ (Below.refl _ _) rfl)
    | 38, _ =>
      have p286 : a.tmps[286]?.getD undef = evV ⟨1, 1, 0, 0, 0, 0, 0⟩ := (hW 32 (by kernel_rfl))
      have p288 : a.tmps[288]?.getD undef = evV ⟨2, 1, 0, 0, 0, 0, 0⟩ := (hW 34 (by kernel_rfl))
      have p289 : a.tmps[289]?.getD undef = evV ⟨1, 0, 0, 0, 0, 0, 0⟩ := (hW 35 (by kernel_rfl))
      have p290 : a.tmps[290]?.getD undef = evV ⟨4, 0, 0, 0, 0, 0, 0⟩ := (hW 36 (by kernel_rfl))
      have p291 : a.tmps[291]?.getD undef = evV ⟨10, 1, 0, 0, 0, 0, 3⟩ := (hW 37 (by kernel_rfl))
      exact n_slice [⟨1, 1, 0, 0, 0, 0, 0⟩, ⟨2, 1, 0, 0, 0, 0, 0⟩, ⟨1, 0, 0, 0, 0, 0, 0⟩, ⟨4, 0, 0, 0, 0, 0, 0⟩, ⟨10, 1, 0, 0, 0, 0, 3⟩] #[(0, .tmp 286), (1, .tmp 288), (2, .tmp 289), (3, .tmp 290), (4, .tmp 291)] (opAtW ho (by kernel_rfl)) rfl (by kernel_rfl) (by decide) (by decide) (by simp [Act.eval, p286, p288, p289, p290, p291]) (fun v w' hb' hs => hK v w' hb' hs)
    | 39, _ =>
      exact n_over 292 (opAtW ho (by kernel_rfl)) (hW 38 (by kernel_rfl)) (fun u w' hb' hs => hK u w' hb' hs)
    | 40, _ =>
      exact n_fine HC (HC.below W w ht hb) 293 true (opAtW ho (by kernel_rfl)) (hW 39 (by kernel_rfl)) (by decide) (by decide) (by decide) (by decide) (by kernel_rfl) (fun w' hb' => hK _ w' hb' rfl)
    | 41, _ =>
      exact u_notT 294 (opAtW ho (by kernel_rfl)) (hW 40 (by kernel_rfl)) (hK _ _ (Below.refl _ _) rfl)
    | 42, _ =>
      exact v_orF 284 295 (opAtW ho (by kernel_rfl)) (hW 30 (by kernel_rfl)) (hW 41 (by kernel_rfl)) (hK _ _ (Below.refl _ _) rfl)
    | i + 43, h => exact absurd (show i + 43 < 43 from h) (by omega)
  · intro us w hu hb hS
    have hat : ∀ j (hj : j < sn26_ds.length), (putAll T0 sn26_ds us)[sn26_ds[j]]?.getD undef = us.getD j undef := fun j hj => by
      rw [putAll_at T0 sn26_ds us j hj hu.symm (by decide) (hlt _ (List.getElem_mem hj)), ← List.getD_eq_getElem?_getD]
    have r296 := hS 42 (by decide)
    rw [← hat 42 (by decide)] at r296
    exact hend _ w (by rw [putAll_size]; exact hsz) hb (fun x hx => putAll_far sn26_ds us T0 x hx) r296
noncomputable def sn28_ops : Array Oper := opsW Tryd.f3 28
def sn28_ds : List Nat := [297, 298, 299, 300, 301, 302, 303, 15]
def sn28_S : Nat → Value → World → Prop
  | 0, v, w => v = evV ⟨1, 0, 0, 0, 0, 0, 0⟩
  | 1, v, w => v = evV ⟨1, 1, 0, 0, 0, 0, 0⟩
  | 2, v, w => v = evV ⟨4, 0, 0, 0, 0, 0, 0⟩
  | 3, v, w => v = evV ⟨4, 1, 0, 0, 0, 0, 0⟩
  | 4, v, w => v = evV ⟨1, 0, 0, 0, 0, 0, 0⟩
  | 5, v, w => SlA [⟨1, 1, 0, 0, 0, 0, 0⟩, ⟨4, 1, 0, 0, 0, 0, 0⟩, ⟨1, 0, 0, 0, 0, 0, 0⟩] (v) w
  | 6, v, w => SlA [⟨1, 1, 0, 0, 0, 0, 0⟩, ⟨4, 1, 0, 0, 0, 0, 0⟩, ⟨1, 0, 0, 0, 0, 0, 0⟩] (v) w
  | 7, v, w => SlA [⟨1, 1, 0, 0, 0, 0, 0⟩, ⟨4, 1, 0, 0, 0, 0, 0⟩, ⟨1, 0, 0, 0, 0, 0, 0⟩] (v) w
  | _ + 8, _, _ => False
theorem sn28_mono (i : Nat) (v : Value) (w w' : World) (b : Below w.heap.size w w') (h : sn28_S i v w) : sn28_S i v w' := by
  match i, h with
  | 0, h => exact h
  | 1, h => exact h
  | 2, h => exact h
  | 3, h => exact h
  | 4, h => exact h
  | 5, h => exact SlA.stays h b
  | 6, h => exact SlA.stays h b
  | 7, h => exact SlA.stays h b
set_option maxRecDepth 100000 in
set_option maxHeartbeats 4000000 in
theorem sn28 {Tb : World → Prop} (HC : CheckC Tb) {id : Nat} {ops : Array Oper} (hops : ops = sn28_ops) (T0 : Array Value) (hsz : T0.size = 726) (W : World) (ht : Tb W) (p6 : PtE ⟨1, 0, 0, 0, 0, 0, 0⟩ (T0[6]?.getD undef) W) (p9 : PtE ⟨4, 0, 0, 0, 0, 0, 0⟩ (T0[9]?.getD undef) W) {Q : Exit → Act → World → Prop}
    (hend : ∀ (T : Array Value) (w : World), T.size = 726 → Below W.heap.size W w → (∀ x, x ∉ sn28_ds → T[x]? = T0[x]?) → SlA [⟨1, 1, 0, 0, 0, 0, 0⟩, ⟨4, 1, 0, 0, 0, 0, 0⟩, ⟨1, 0, 0, 0, 0, 0, 0⟩] (T[15]?.getD undef) w → Q .normal ⟨T, []⟩ w) : (Code.region id ops true).wp Tryd.prog Q ⟨T0, []⟩ W := by
  subst hops
  have hos : sn28_ops.size = 8 := by kernel_rfl
  have hga : (List.range 8).all (fun i => match sn28_ops[i]? with | some o => o.guard == ([none, none, none, none, none, none, none, none] : List (Option (Nat × Bool))).getD i none | none => false) = true := by kernel_rfl
  have q6 : ∀ (a : Act) (w : World), (∀ t, t ∉ sn28_ds → a.tmps[t]?.getD undef = T0[t]?.getD undef) → Below W.heap.size W w → PtE ⟨1, 0, 0, 0, 0, 0, 0⟩ (a.tmps[6]?.getD undef) w := fun a w hT hb => by rw [hT 6 (by decide)]; exact PtE.stays p6 hb
  have q9 : ∀ (a : Act) (w : World), (∀ t, t ∉ sn28_ds → a.tmps[t]?.getD undef = T0[t]?.getD undef) → Below W.heap.size W w → PtE ⟨4, 0, 0, 0, 0, 0, 0⟩ (a.tmps[9]?.getD undef) w := fun a w hT hb => by rw [hT 9 (by decide)]; exact PtE.stays p9 hb
  have hlt : ∀ x ∈ sn28_ds, x < T0.size := fun x hx => by
    have hall : (sn28_ds.all fun d => decide (d < 726)) = true := by decide
    have := List.all_eq_true.1 hall x hx
    simp only [decide_eq_true_eq] at this
    omega
  refine wp_region_kinds3 sn28_S sn28_ds W T0 (by decide) hlt (by kernel_rfl) (by kernel_rfl) (fun i o j want ho hgd => ?_) sn28_mono ?_ ?_
  · have hi : i < 8 := by rw [← hos]; exact (Array.getElem?_eq_some_iff.1 ho).1
    have h1 := List.all_eq_true.1 hga i (by simpa using hi)
    rw [ho] at h1
    simp only [hgd, beq_iff_eq] at h1
    match i, hi with
    | 0, _ => cases h1
    | 1, _ => cases h1
    | 2, _ => cases h1
    | 3, _ => cases h1
    | 4, _ => cases h1
    | 5, _ => cases h1
    | 6, _ => cases h1
    | 7, _ => cases h1
    | i + 8, h => exact absurd (show i + 8 < 8 from h) (by omega)
  · intro i o ho hi a w hT hW hb K hK
    match i, hi with
    | 0, _ =>
      exact n_load 6 (opAtW ho (by kernel_rfl)) (q6 a w hT hb) (hK _ _ (Below.refl _ _) rfl)
    | 1, _ =>
      exact o_by 297 (opAtW ho (by kernel_rfl)) (hW 0 (by kernel_rfl)) (by_any 1 ⟨1, 0, 0, 0, 0, 0, 0⟩ w) (fun w' hb' => hK _ w' hb' rfl)
    | 2, _ =>
      exact n_load 9 (opAtW ho (by kernel_rfl)) (q9 a w hT hb) (hK _ _ (Below.refl _ _) rfl)
    | 3, _ =>
      exact o_by 299 (opAtW ho (by kernel_rfl)) (hW 2 (by kernel_rfl)) (by_any 1 ⟨4, 0, 0, 0, 0, 0, 0⟩ w) (fun w' hb' => hK _ w' hb' rfl)
    | 4, _ =>
      exact n_load 6 (opAtW ho (by kernel_rfl)) (q6 a w hT hb) (hK _ _ (Below.refl _ _) rfl)
    | 5, _ =>
      have p298 : a.tmps[298]?.getD undef = evV ⟨1, 1, 0, 0, 0, 0, 0⟩ := (hW 1 (by kernel_rfl))
      have p300 : a.tmps[300]?.getD undef = evV ⟨4, 1, 0, 0, 0, 0, 0⟩ := (hW 3 (by kernel_rfl))
      have p301 : a.tmps[301]?.getD undef = evV ⟨1, 0, 0, 0, 0, 0, 0⟩ := (hW 4 (by kernel_rfl))
      exact n_slice [⟨1, 1, 0, 0, 0, 0, 0⟩, ⟨4, 1, 0, 0, 0, 0, 0⟩, ⟨1, 0, 0, 0, 0, 0, 0⟩] #[(0, .tmp 298), (1, .tmp 300), (2, .tmp 301)] (opAtW ho (by kernel_rfl)) rfl (by kernel_rfl) (by decide) (by decide) (by simp [Act.eval, p298, p300, p301]) (fun v w' hb' hs => hK v w' hb' hs)
    | 6, _ =>
      exact n_many 302 (opAtW ho (by kernel_rfl)) (hW 5 (by kernel_rfl)) (fun u w' hb' hs => hK u w' hb' hs)
    | 7, _ =>
      exact v_assign 303 (opAtW ho (by kernel_rfl)) rfl (hK _ _ (Below.refl _ _) (hW 6 (by kernel_rfl)))
    | i + 8, h => exact absurd (show i + 8 < 8 from h) (by omega)
  · intro us w hu hb hS
    have hat : ∀ j (hj : j < sn28_ds.length), (putAll T0 sn28_ds us)[sn28_ds[j]]?.getD undef = us.getD j undef := fun j hj => by
      rw [putAll_at T0 sn28_ds us j hj hu.symm (by decide) (hlt _ (List.getElem_mem hj)), ← List.getD_eq_getElem?_getD]
    have r15 := hS 7 (by decide)
    rw [← hat 7 (by decide)] at r15
    exact hend _ w (by rw [putAll_size]; exact hsz) hb (fun x hx => putAll_far sn28_ds us T0 x hx) r15
noncomputable def sn29_ops : Array Oper := opsW Tryd.f3 29
def sn29_ds : List Nat := [304, 305, 306, 307, 308, 309, 310, 311, 312, 313, 314, 315, 316, 317, 318, 319, 320, 321, 322, 323, 324, 325, 326, 327, 328, 329, 330, 331, 332, 333, 334, 335, 336, 337, 338, 339, 340, 341, 342, 343, 344, 345, 346, 347, 348, 349, 350, 351, 352, 353, 354, 355, 356, 357, 358, 359, 360, 361, 362, 363, 364, 365, 366, 367, 368, 369, 370, 371, 372, 373, 374, 375]
def sn29_S : Nat → Value → World → Prop
  | 0, v, w => SlA [⟨1, 1, 0, 0, 0, 0, 0⟩, ⟨4, 1, 0, 0, 0, 0, 0⟩, ⟨1, 0, 0, 0, 0, 0, 0⟩] (v) w
  | 1, v, w => v = evV ⟨10, 0, 0, 0, 0, 0, 1⟩
  | 2, v, w => SlA [⟨10, 0, 0, 0, 0, 0, 1⟩] (v) w
  | 3, v, w => SlA [⟨10, 0, 0, 0, 0, 0, 1⟩] (v) w
  | 4, v, w => LsA [[⟨1, 1, 0, 0, 0, 0, 0⟩, ⟨4, 1, 0, 0, 0, 0, 0⟩, ⟨1, 0, 0, 0, 0, 0, 0⟩], [⟨10, 0, 0, 0, 0, 0, 1⟩]] (v) w
  | 5, v, w => SlA [⟨1, 1, 0, 0, 0, 0, 0⟩, ⟨4, 1, 0, 0, 0, 0, 0⟩, ⟨1, 0, 0, 0, 0, 0, 0⟩, ⟨10, 0, 0, 0, 0, 0, 1⟩] (v) w
  | 6, v, w => TrA 3 4 2 [⟨1, 1, 0, 0, 0, 0, 0⟩, ⟨4, 1, 0, 0, 0, 0, 0⟩, ⟨1, 0, 0, 0, 0, 0, 0⟩, ⟨10, 0, 0, 0, 0, 0, 1⟩] (v) w
  | 7, v, w => v = .bool true
  | 8, v, w => v = .bool false
  | 9, v, w => v = .bool false
  | 10, v, w => SlA [⟨1, 1, 0, 0, 0, 0, 0⟩, ⟨4, 1, 0, 0, 0, 0, 0⟩, ⟨1, 0, 0, 0, 0, 0, 0⟩] (v) w
  | 11, v, w => v = evV ⟨10, 0, 0, 1, 0, 0, 1⟩
  | 12, v, w => SlA [⟨10, 0, 0, 1, 0, 0, 1⟩] (v) w
  | 13, v, w => SlA [⟨10, 0, 0, 1, 0, 0, 1⟩] (v) w
  | 14, v, w => LsA [[⟨1, 1, 0, 0, 0, 0, 0⟩, ⟨4, 1, 0, 0, 0, 0, 0⟩, ⟨1, 0, 0, 0, 0, 0, 0⟩], [⟨10, 0, 0, 1, 0, 0, 1⟩]] (v) w
  | 15, v, w => SlA [⟨1, 1, 0, 0, 0, 0, 0⟩, ⟨4, 1, 0, 0, 0, 0, 0⟩, ⟨1, 0, 0, 0, 0, 0, 0⟩, ⟨10, 0, 0, 1, 0, 0, 1⟩] (v) w
  | 16, v, w => v = .bool true
  | 17, v, w => v = .bool false
  | 18, v, w => v = .bool false
  | 19, v, w => v = .bool false
  | 20, v, w => SlA [⟨1, 1, 0, 0, 0, 0, 0⟩, ⟨4, 1, 0, 0, 0, 0, 0⟩, ⟨1, 0, 0, 0, 0, 0, 0⟩] (v) w
  | 21, v, w => v = evV ⟨10, 0, 0, 0, 0, 0, 2⟩
  | 22, v, w => SlA [⟨10, 0, 0, 0, 0, 0, 2⟩] (v) w
  | 23, v, w => SlA [⟨10, 0, 0, 0, 0, 0, 2⟩] (v) w
  | 24, v, w => LsA [[⟨1, 1, 0, 0, 0, 0, 0⟩, ⟨4, 1, 0, 0, 0, 0, 0⟩, ⟨1, 0, 0, 0, 0, 0, 0⟩], [⟨10, 0, 0, 0, 0, 0, 2⟩]] (v) w
  | 25, v, w => SlA [⟨1, 1, 0, 0, 0, 0, 0⟩, ⟨4, 1, 0, 0, 0, 0, 0⟩, ⟨1, 0, 0, 0, 0, 0, 0⟩, ⟨10, 0, 0, 0, 0, 0, 2⟩] (v) w
  | 26, v, w => v = .bool true
  | 27, v, w => v = .bool false
  | 28, v, w => v = .bool false
  | 29, v, w => v = .bool false
  | 30, v, w => SlA [⟨1, 1, 0, 0, 0, 0, 0⟩, ⟨4, 1, 0, 0, 0, 0, 0⟩, ⟨1, 0, 0, 0, 0, 0, 0⟩] (v) w
  | 31, v, w => v = evV ⟨10, 0, 0, 0, 0, 0, 4⟩
  | 32, v, w => SlA [⟨10, 0, 0, 0, 0, 0, 4⟩] (v) w
  | 33, v, w => SlA [⟨10, 0, 0, 0, 0, 0, 4⟩] (v) w
  | 34, v, w => LsA [[⟨1, 1, 0, 0, 0, 0, 0⟩, ⟨4, 1, 0, 0, 0, 0, 0⟩, ⟨1, 0, 0, 0, 0, 0, 0⟩], [⟨10, 0, 0, 0, 0, 0, 4⟩]] (v) w
  | 35, v, w => SlA [⟨1, 1, 0, 0, 0, 0, 0⟩, ⟨4, 1, 0, 0, 0, 0, 0⟩, ⟨1, 0, 0, 0, 0, 0, 0⟩, ⟨10, 0, 0, 0, 0, 0, 4⟩] (v) w
  | 36, v, w => TrA 3 4 2 [⟨1, 1, 0, 0, 0, 0, 0⟩, ⟨4, 1, 0, 0, 0, 0, 0⟩, ⟨1, 0, 0, 0, 0, 0, 0⟩, ⟨10, 0, 0, 0, 0, 0, 4⟩] (v) w
  | 37, v, w => v = .bool true
  | 38, v, w => v = .bool false
  | 39, v, w => v = .bool false
  | 40, v, w => v = .bool false
  | 41, v, w => SlA [⟨1, 1, 0, 0, 0, 0, 0⟩, ⟨4, 1, 0, 0, 0, 0, 0⟩, ⟨1, 0, 0, 0, 0, 0, 0⟩] (v) w
  | 42, v, w => v = evV ⟨4, 0, 0, 0, 0, 0, 0⟩
  | 43, v, w => SlA [⟨4, 0, 0, 0, 0, 0, 0⟩] (v) w
  | 44, v, w => SlA [⟨4, 0, 0, 0, 0, 0, 0⟩] (v) w
  | 45, v, w => LsA [[⟨1, 1, 0, 0, 0, 0, 0⟩, ⟨4, 1, 0, 0, 0, 0, 0⟩, ⟨1, 0, 0, 0, 0, 0, 0⟩], [⟨4, 0, 0, 0, 0, 0, 0⟩]] (v) w
  | 46, v, w => SlA [⟨1, 1, 0, 0, 0, 0, 0⟩, ⟨4, 1, 0, 0, 0, 0, 0⟩, ⟨1, 0, 0, 0, 0, 0, 0⟩, ⟨4, 0, 0, 0, 0, 0, 0⟩] (v) w
  | 47, v, w => v = .bool true
  | 48, v, w => v = .bool false
  | 49, v, w => v = .bool false
  | 50, v, w => v = .bool false
  | 51, v, w => SlA [⟨1, 1, 0, 0, 0, 0, 0⟩, ⟨4, 1, 0, 0, 0, 0, 0⟩, ⟨1, 0, 0, 0, 0, 0, 0⟩] (v) w
  | 52, v, w => v = evV ⟨4, 0, 0, 1, 0, 0, 0⟩
  | 53, v, w => SlA [⟨4, 0, 0, 1, 0, 0, 0⟩] (v) w
  | 54, v, w => SlA [⟨4, 0, 0, 1, 0, 0, 0⟩] (v) w
  | 55, v, w => LsA [[⟨1, 1, 0, 0, 0, 0, 0⟩, ⟨4, 1, 0, 0, 0, 0, 0⟩, ⟨1, 0, 0, 0, 0, 0, 0⟩], [⟨4, 0, 0, 1, 0, 0, 0⟩]] (v) w
  | 56, v, w => SlA [⟨1, 1, 0, 0, 0, 0, 0⟩, ⟨4, 1, 0, 0, 0, 0, 0⟩, ⟨1, 0, 0, 0, 0, 0, 0⟩, ⟨4, 0, 0, 1, 0, 0, 0⟩] (v) w
  | 57, v, w => TrA 3 4 2 [⟨1, 1, 0, 0, 0, 0, 0⟩, ⟨4, 1, 0, 0, 0, 0, 0⟩, ⟨1, 0, 0, 0, 0, 0, 0⟩, ⟨4, 0, 0, 1, 0, 0, 0⟩] (v) w
  | 58, v, w => v = .bool true
  | 59, v, w => v = .bool false
  | 60, v, w => v = .bool false
  | 61, v, w => v = .bool false
  | 62, v, w => SlA [⟨1, 1, 0, 0, 0, 0, 0⟩, ⟨4, 1, 0, 0, 0, 0, 0⟩, ⟨1, 0, 0, 0, 0, 0, 0⟩] (v) w
  | 63, v, w => v = evV ⟨4, 0, 0, 1, 0, 0, 0⟩
  | 64, v, w => v = evV ⟨10, 0, 0, 0, 0, 0, 4⟩
  | 65, v, w => SlA [⟨4, 0, 0, 1, 0, 0, 0⟩, ⟨10, 0, 0, 0, 0, 0, 4⟩] (v) w
  | 66, v, w => SlA [⟨4, 0, 0, 1, 0, 0, 0⟩, ⟨10, 0, 0, 0, 0, 0, 4⟩] (v) w
  | 67, v, w => LsA [[⟨1, 1, 0, 0, 0, 0, 0⟩, ⟨4, 1, 0, 0, 0, 0, 0⟩, ⟨1, 0, 0, 0, 0, 0, 0⟩], [⟨4, 0, 0, 1, 0, 0, 0⟩, ⟨10, 0, 0, 0, 0, 0, 4⟩]] (v) w
  | 68, v, w => SlA [⟨1, 1, 0, 0, 0, 0, 0⟩, ⟨4, 1, 0, 0, 0, 0, 0⟩, ⟨1, 0, 0, 0, 0, 0, 0⟩, ⟨4, 0, 0, 1, 0, 0, 0⟩, ⟨10, 0, 0, 0, 0, 0, 4⟩] (v) w
  | 69, v, w => v = .bool true
  | 70, v, w => v = .bool false
  | 71, v, w => v = .bool false
  | _ + 72, _, _ => False
theorem sn29_mono (i : Nat) (v : Value) (w w' : World) (b : Below w.heap.size w w') (h : sn29_S i v w) : sn29_S i v w' := by
  match i, h with
  | 0, h => exact SlA.stays h b
  | 1, h => exact h
  | 2, h => exact SlA.stays h b
  | 3, h => exact SlA.stays h b
  | 4, h => exact LsA.stays h b
  | 5, h => exact SlA.stays h b
  | 6, h => exact TrA.stays h b
  | 7, h => exact h
  | 8, h => exact h
  | 9, h => exact h
  | 10, h => exact SlA.stays h b
  | 11, h => exact h
  | 12, h => exact SlA.stays h b
  | 13, h => exact SlA.stays h b
  | 14, h => exact LsA.stays h b
  | 15, h => exact SlA.stays h b
  | 16, h => exact h
  | 17, h => exact h
  | 18, h => exact h
  | 19, h => exact h
  | 20, h => exact SlA.stays h b
  | 21, h => exact h
  | 22, h => exact SlA.stays h b
  | 23, h => exact SlA.stays h b
  | 24, h => exact LsA.stays h b
  | 25, h => exact SlA.stays h b
  | 26, h => exact h
  | 27, h => exact h
  | 28, h => exact h
  | 29, h => exact h
  | 30, h => exact SlA.stays h b
  | 31, h => exact h
  | 32, h => exact SlA.stays h b
  | 33, h => exact SlA.stays h b
  | 34, h => exact LsA.stays h b
  | 35, h => exact SlA.stays h b
  | 36, h => exact TrA.stays h b
  | 37, h => exact h
  | 38, h => exact h
  | 39, h => exact h
  | 40, h => exact h
  | 41, h => exact SlA.stays h b
  | 42, h => exact h
  | 43, h => exact SlA.stays h b
  | 44, h => exact SlA.stays h b
  | 45, h => exact LsA.stays h b
  | 46, h => exact SlA.stays h b
  | 47, h => exact h
  | 48, h => exact h
  | 49, h => exact h
  | 50, h => exact h
  | 51, h => exact SlA.stays h b
  | 52, h => exact h
  | 53, h => exact SlA.stays h b
  | 54, h => exact SlA.stays h b
  | 55, h => exact LsA.stays h b
  | 56, h => exact SlA.stays h b
  | 57, h => exact TrA.stays h b
  | 58, h => exact h
  | 59, h => exact h
  | 60, h => exact h
  | 61, h => exact h
  | 62, h => exact SlA.stays h b
  | 63, h => exact h
  | 64, h => exact h
  | 65, h => exact SlA.stays h b
  | 66, h => exact SlA.stays h b
  | 67, h => exact LsA.stays h b
  | 68, h => exact SlA.stays h b
  | 69, h => exact h
  | 70, h => exact h
  | 71, h => exact h
set_option maxRecDepth 100000 in
set_option maxHeartbeats 4000000 in
theorem sn29 {Tb : World → Prop} (HC : CheckC Tb) {id : Nat} {ops : Array Oper} (hops : ops = sn29_ops) (T0 : Array Value) (hsz : T0.size = 726) (W : World) (ht : Tb W) (p9 : PtE ⟨4, 0, 0, 0, 0, 0, 0⟩ (T0[9]?.getD undef) W) (p15 : SlA [⟨1, 1, 0, 0, 0, 0, 0⟩, ⟨4, 1, 0, 0, 0, 0, 0⟩, ⟨1, 0, 0, 0, 0, 0, 0⟩] (T0[15]?.getD undef) W) {Q : Exit → Act → World → Prop}
    (hend : ∀ (T : Array Value) (w : World), T.size = 726 → Below W.heap.size W w → (∀ x, x ∉ sn29_ds → T[x]? = T0[x]?) → T[375]?.getD undef = .bool false → Q .normal ⟨T, []⟩ w) : (Code.region id ops false).wp Tryd.prog Q ⟨T0, []⟩ W := by
  subst hops
  have hos : sn29_ops.size = 72 := by kernel_rfl
  have hga : (List.range 72).all (fun i => match sn29_ops[i]? with | some o => o.guard == ([none, none, none, none, none, none, none, none, none, none, some (9, false), some (9, false), some (9, false), some (9, false), some (9, false), some (9, false), some (9, false), some (9, false), none, none, some (19, false), some (19, false), some (19, false), some (19, false), some (19, false), some (19, false), some (19, false), some (19, false), none, none, some (29, false), some (29, false), some (29, false), some (29, false), some (29, false), some (29, false), some (29, false), some (29, false), some (29, false), none, none, some (40, false), some (40, false), some (40, false), some (40, false), some (40, false), some (40, false), some (40, false), some (40, false), none, none, some (50, false), some (50, false), some (50, false), some (50, false), some (50, false), some (50, false), some (50, false), some (50, false), some (50, false), none, none, some (61, false), some (61, false), some (61, false), some (61, false), some (61, false), some (61, false), some (61, false), some (61, false), some (61, false), none] : List (Option (Nat × Bool))).getD i none | none => false) = true := by kernel_rfl
  have q9 : ∀ (a : Act) (w : World), (∀ t, t ∉ sn29_ds → a.tmps[t]?.getD undef = T0[t]?.getD undef) → Below W.heap.size W w → PtE ⟨4, 0, 0, 0, 0, 0, 0⟩ (a.tmps[9]?.getD undef) w := fun a w hT hb => by rw [hT 9 (by decide)]; exact PtE.stays p9 hb
  have q15 : ∀ (a : Act) (w : World), (∀ t, t ∉ sn29_ds → a.tmps[t]?.getD undef = T0[t]?.getD undef) → Below W.heap.size W w → SlA [⟨1, 1, 0, 0, 0, 0, 0⟩, ⟨4, 1, 0, 0, 0, 0, 0⟩, ⟨1, 0, 0, 0, 0, 0, 0⟩] (a.tmps[15]?.getD undef) w := fun a w hT hb => by rw [hT 15 (by decide)]; exact SlA.stays p15 hb
  have hlt : ∀ x ∈ sn29_ds, x < T0.size := fun x hx => by
    have hall : (sn29_ds.all fun d => decide (d < 726)) = true := by decide
    have := List.all_eq_true.1 hall x hx
    simp only [decide_eq_true_eq] at this
    omega
  refine wp_region_kindsS sn29_S sn29_ds W T0 (by decide) hlt (by kernel_rfl) (fun i o j want ho hgd => ?_) sn29_mono ?_ ?_
  · have hi : i < 72 := by rw [← hos]; exact (Array.getElem?_eq_some_iff.1 ho).1
    have h1 := List.all_eq_true.1 hga i (by simpa using hi)
    rw [ho] at h1
    simp only [hgd, beq_iff_eq] at h1
    match i, hi with
    | 0, _ => cases h1
    | 1, _ => cases h1
    | 2, _ => cases h1
    | 3, _ => cases h1
    | 4, _ => cases h1
    | 5, _ => cases h1
    | 6, _ => cases h1
    | 7, _ => cases h1
    | 8, _ => cases h1
    | 9, _ => cases h1
    | 10, _ => obtain ⟨rfl, rfl⟩ := Prod.mk.inj (Option.some.inj h1); exact fun v w h => h
    | 11, _ => obtain ⟨rfl, rfl⟩ := Prod.mk.inj (Option.some.inj h1); exact fun v w h => h
    | 12, _ => obtain ⟨rfl, rfl⟩ := Prod.mk.inj (Option.some.inj h1); exact fun v w h => h
    | 13, _ => obtain ⟨rfl, rfl⟩ := Prod.mk.inj (Option.some.inj h1); exact fun v w h => h
    | 14, _ => obtain ⟨rfl, rfl⟩ := Prod.mk.inj (Option.some.inj h1); exact fun v w h => h
    | 15, _ => obtain ⟨rfl, rfl⟩ := Prod.mk.inj (Option.some.inj h1); exact fun v w h => h
    | 16, _ => obtain ⟨rfl, rfl⟩ := Prod.mk.inj (Option.some.inj h1); exact fun v w h => h
    | 17, _ => obtain ⟨rfl, rfl⟩ := Prod.mk.inj (Option.some.inj h1); exact fun v w h => h
    | 18, _ => cases h1
    | 19, _ => cases h1
    | 20, _ => obtain ⟨rfl, rfl⟩ := Prod.mk.inj (Option.some.inj h1); exact fun v w h => h
    | 21, _ => obtain ⟨rfl, rfl⟩ := Prod.mk.inj (Option.some.inj h1); exact fun v w h => h
    | 22, _ => obtain ⟨rfl, rfl⟩ := Prod.mk.inj (Option.some.inj h1); exact fun v w h => h
    | 23, _ => obtain ⟨rfl, rfl⟩ := Prod.mk.inj (Option.some.inj h1); exact fun v w h => h
    | 24, _ => obtain ⟨rfl, rfl⟩ := Prod.mk.inj (Option.some.inj h1); exact fun v w h => h
    | 25, _ => obtain ⟨rfl, rfl⟩ := Prod.mk.inj (Option.some.inj h1); exact fun v w h => h
    | 26, _ => obtain ⟨rfl, rfl⟩ := Prod.mk.inj (Option.some.inj h1); exact fun v w h => h
    | 27, _ => obtain ⟨rfl, rfl⟩ := Prod.mk.inj (Option.some.inj h1); exact fun v w h => h
    | 28, _ => cases h1
    | 29, _ => cases h1
    | 30, _ => obtain ⟨rfl, rfl⟩ := Prod.mk.inj (Option.some.inj h1); exact fun v w h => h
    | 31, _ => obtain ⟨rfl, rfl⟩ := Prod.mk.inj (Option.some.inj h1); exact fun v w h => h
    | 32, _ => obtain ⟨rfl, rfl⟩ := Prod.mk.inj (Option.some.inj h1); exact fun v w h => h
    | 33, _ => obtain ⟨rfl, rfl⟩ := Prod.mk.inj (Option.some.inj h1); exact fun v w h => h
    | 34, _ => obtain ⟨rfl, rfl⟩ := Prod.mk.inj (Option.some.inj h1); exact fun v w h => h
    | 35, _ => obtain ⟨rfl, rfl⟩ := Prod.mk.inj (Option.some.inj h1); exact fun v w h => h
    | 36, _ => obtain ⟨rfl, rfl⟩ := Prod.mk.inj (Option.some.inj h1); exact fun v w h => h
    | 37, _ => obtain ⟨rfl, rfl⟩ := Prod.mk.inj (Option.some.inj h1); exact fun v w h => h
    | 38, _ => obtain ⟨rfl, rfl⟩ := Prod.mk.inj (Option.some.inj h1); exact fun v w h => h
    | 39, _ => cases h1
    | 40, _ => cases h1
    | 41, _ => obtain ⟨rfl, rfl⟩ := Prod.mk.inj (Option.some.inj h1); exact fun v w h => h
    | 42, _ => obtain ⟨rfl, rfl⟩ := Prod.mk.inj (Option.some.inj h1); exact fun v w h => h
    | 43, _ => obtain ⟨rfl, rfl⟩ := Prod.mk.inj (Option.some.inj h1); exact fun v w h => h
    | 44, _ => obtain ⟨rfl, rfl⟩ := Prod.mk.inj (Option.some.inj h1); exact fun v w h => h
    | 45, _ => obtain ⟨rfl, rfl⟩ := Prod.mk.inj (Option.some.inj h1); exact fun v w h => h
    | 46, _ => obtain ⟨rfl, rfl⟩ := Prod.mk.inj (Option.some.inj h1); exact fun v w h => h
    | 47, _ => obtain ⟨rfl, rfl⟩ := Prod.mk.inj (Option.some.inj h1); exact fun v w h => h
    | 48, _ => obtain ⟨rfl, rfl⟩ := Prod.mk.inj (Option.some.inj h1); exact fun v w h => h
    | 49, _ => cases h1
    | 50, _ => cases h1
    | 51, _ => obtain ⟨rfl, rfl⟩ := Prod.mk.inj (Option.some.inj h1); exact fun v w h => h
    | 52, _ => obtain ⟨rfl, rfl⟩ := Prod.mk.inj (Option.some.inj h1); exact fun v w h => h
    | 53, _ => obtain ⟨rfl, rfl⟩ := Prod.mk.inj (Option.some.inj h1); exact fun v w h => h
    | 54, _ => obtain ⟨rfl, rfl⟩ := Prod.mk.inj (Option.some.inj h1); exact fun v w h => h
    | 55, _ => obtain ⟨rfl, rfl⟩ := Prod.mk.inj (Option.some.inj h1); exact fun v w h => h
    | 56, _ => obtain ⟨rfl, rfl⟩ := Prod.mk.inj (Option.some.inj h1); exact fun v w h => h
    | 57, _ => obtain ⟨rfl, rfl⟩ := Prod.mk.inj (Option.some.inj h1); exact fun v w h => h
    | 58, _ => obtain ⟨rfl, rfl⟩ := Prod.mk.inj (Option.some.inj h1); exact fun v w h => h
    | 59, _ => obtain ⟨rfl, rfl⟩ := Prod.mk.inj (Option.some.inj h1); exact fun v w h => h
    | 60, _ => cases h1
    | 61, _ => cases h1
    | 62, _ => obtain ⟨rfl, rfl⟩ := Prod.mk.inj (Option.some.inj h1); exact fun v w h => h
    | 63, _ => obtain ⟨rfl, rfl⟩ := Prod.mk.inj (Option.some.inj h1); exact fun v w h => h
    | 64, _ => obtain ⟨rfl, rfl⟩ := Prod.mk.inj (Option.some.inj h1); exact fun v w h => h
    | 65, _ => obtain ⟨rfl, rfl⟩ := Prod.mk.inj (Option.some.inj h1); exact fun v w h => h
    | 66, _ => obtain ⟨rfl, rfl⟩ := Prod.mk.inj (Option.some.inj h1); exact fun v w h => h
    | 67, _ => obtain ⟨rfl, rfl⟩ := Prod.mk.inj (Option.some.inj h1); exact fun v w h => h
    | 68, _ => obtain ⟨rfl, rfl⟩ := Prod.mk.inj (Option.some.inj h1); exact fun v w h => h
    | 69, _ => obtain ⟨rfl, rfl⟩ := Prod.mk.inj (Option.some.inj h1); exact fun v w h => h
    | 70, _ => obtain ⟨rfl, rfl⟩ := Prod.mk.inj (Option.some.inj h1); exact fun v w h => h
    | 71, _ => cases h1
    | i + 72, h => exact absurd (show i + 72 < 72 from h) (by omega)
  · intro i o ho hi a w hT hW hb K hK
    match i, hi with
    | 0, _ =>
      exact v_move 15 (opAtW ho (by kernel_rfl)) rfl (hK _ _ (Below.refl _ _) (q15 a w hT hb))
    | 1, _ =>
      exact o_why (opAtW ho (by kernel_rfl)) (why_any 1 0 w) (fun w' hb' => hK _ w' hb' rfl)
    | 2, _ =>
      have p305 : a.tmps[305]?.getD undef = evV ⟨10, 0, 0, 0, 0, 0, 1⟩ := (hW 1 (by decide))
      exact n_slice [⟨10, 0, 0, 0, 0, 0, 1⟩] #[(0, .tmp 305)] (opAtW ho (by kernel_rfl)) rfl (by kernel_rfl) (by decide) (by decide) (by simp [Act.eval, p305]) (fun v w' hb' hs => hK v w' hb' hs)
    | 3, _ =>
      exact n_many 306 (opAtW ho (by kernel_rfl)) (hW 2 (by decide)) (fun u w' hb' hs => hK u w' hb' hs)
    | 4, _ =>
      have p304 : SlA [⟨1, 1, 0, 0, 0, 0, 0⟩, ⟨4, 1, 0, 0, 0, 0, 0⟩, ⟨1, 0, 0, 0, 0, 0, 0⟩] (a.tmps[304]?.getD undef) w := (hW 0 (by decide))
      have p307 : SlA [⟨10, 0, 0, 0, 0, 0, 1⟩] (a.tmps[307]?.getD undef) w := (hW 3 (by decide))
      refine n_lists [[⟨1, 1, 0, 0, 0, 0, 0⟩, ⟨4, 1, 0, 0, 0, 0, 0⟩, ⟨1, 0, 0, 0, 0, 0, 0⟩], [⟨10, 0, 0, 0, 0, 0, 1⟩]] [a.tmps[304]?.getD undef, a.tmps[307]?.getD undef] #[(0, .tmp 304), (1, .tmp 307)] (opAtW ho (by kernel_rfl)) rfl rfl (by decide) (by decide) (fun j h => ?_) (by simp [Act.eval]) (fun v w' hb' hs => hK v w' hb' hs)
      match j, h with
      | 0, _ => exact p304
      | 1, _ => exact p307
      | j + 2, h => exact absurd h (by simp)
    | 5, _ =>
      exact n_join 308 [⟨1, 1, 0, 0, 0, 0, 0⟩, ⟨4, 1, 0, 0, 0, 0, 0⟩, ⟨1, 0, 0, 0, 0, 0, 0⟩, ⟨10, 0, 0, 0, 0, 0, 1⟩] (opAtW ho (by kernel_rfl)) (hW 4 (by decide)) (by decide) (by decide) rfl (fun u w' hb' hs => hK u w' hb' hs)
    | 6, _ =>
      exact n_over 309 (opAtW ho (by kernel_rfl)) (hW 5 (by decide)) (fun u w' hb' hs => hK u w' hb' hs)
    | 7, _ =>
      exact n_fine HC (HC.below W w ht hb) 310 true (opAtW ho (by kernel_rfl)) (hW 6 (by decide)) (by decide) (by decide) (by decide) (by decide) (by kernel_rfl) (fun w' hb' => hK _ w' hb' rfl)
    | 8, _ =>
      exact u_notT 311 (opAtW ho (by kernel_rfl)) (hW 7 (by decide)) (hK _ _ (Below.refl _ _) rfl)
    | 9, _ =>
      exact v_move 312 (opAtW ho (by kernel_rfl)) (hW 8 (by decide)) (hK _ _ (Below.refl _ _) rfl)
    | 10, _ =>
      exact v_move 15 (opAtW ho (by kernel_rfl)) rfl (hK _ _ (Below.refl _ _) (q15 a w hT hb))
    | 11, _ =>
      exact o_why (opAtW ho (by kernel_rfl)) (why_any 1 1 w) (fun w' hb' => hK _ w' hb' rfl)
    | 12, _ =>
      have p315 : a.tmps[315]?.getD undef = evV ⟨10, 0, 0, 1, 0, 0, 1⟩ := (hW 11 (by decide))
      exact n_slice [⟨10, 0, 0, 1, 0, 0, 1⟩] #[(0, .tmp 315)] (opAtW ho (by kernel_rfl)) rfl (by kernel_rfl) (by decide) (by decide) (by simp [Act.eval, p315]) (fun v w' hb' hs => hK v w' hb' hs)
    | 13, _ =>
      exact n_many 316 (opAtW ho (by kernel_rfl)) (hW 12 (by decide)) (fun u w' hb' hs => hK u w' hb' hs)
    | 14, _ =>
      have p314 : SlA [⟨1, 1, 0, 0, 0, 0, 0⟩, ⟨4, 1, 0, 0, 0, 0, 0⟩, ⟨1, 0, 0, 0, 0, 0, 0⟩] (a.tmps[314]?.getD undef) w := (hW 10 (by decide))
      have p317 : SlA [⟨10, 0, 0, 1, 0, 0, 1⟩] (a.tmps[317]?.getD undef) w := (hW 13 (by decide))
      refine n_lists [[⟨1, 1, 0, 0, 0, 0, 0⟩, ⟨4, 1, 0, 0, 0, 0, 0⟩, ⟨1, 0, 0, 0, 0, 0, 0⟩], [⟨10, 0, 0, 1, 0, 0, 1⟩]] [a.tmps[314]?.getD undef, a.tmps[317]?.getD undef] #[(0, .tmp 314), (1, .tmp 317)] (opAtW ho (by kernel_rfl)) rfl rfl (by decide) (by decide) (fun j h => ?_) (by simp [Act.eval]) (fun v w' hb' hs => hK v w' hb' hs)
      match j, h with
      | 0, _ => exact p314
      | 1, _ => exact p317
      | j + 2, h => exact absurd h (by simp)
    | 15, _ =>
      exact n_join 318 [⟨1, 1, 0, 0, 0, 0, 0⟩, ⟨4, 1, 0, 0, 0, 0, 0⟩, ⟨1, 0, 0, 0, 0, 0, 0⟩, ⟨10, 0, 0, 1, 0, 0, 1⟩] (opAtW ho (by kernel_rfl)) (hW 14 (by decide)) (by decide) (by decide) rfl (fun u w' hb' hs => hK u w' hb' hs)
    | 16, _ =>
      exact n_bad HC (HC.below W w ht hb) 319 true (opAtW ho (by kernel_rfl)) (hW 15 (by decide)) (by decide) (by decide) (by kernel_rfl) (fun w' hb' => hK _ w' hb' rfl)
    | 17, _ =>
      exact u_notT 320 (opAtW ho (by kernel_rfl)) (hW 16 (by decide)) (hK _ _ (Below.refl _ _) rfl)
    | 18, _ =>
      exact v_orF 313 321 (opAtW ho (by kernel_rfl)) (hW 9 (by decide)) (hW 17 (by decide)) (hK _ _ (Below.refl _ _) rfl)
    | 19, _ =>
      exact v_move 322 (opAtW ho (by kernel_rfl)) (hW 18 (by decide)) (hK _ _ (Below.refl _ _) rfl)
    | 20, _ =>
      exact v_move 15 (opAtW ho (by kernel_rfl)) rfl (hK _ _ (Below.refl _ _) (q15 a w hT hb))
    | 21, _ =>
      exact o_why (opAtW ho (by kernel_rfl)) (why_any 2 0 w) (fun w' hb' => hK _ w' hb' rfl)
    | 22, _ =>
      have p325 : a.tmps[325]?.getD undef = evV ⟨10, 0, 0, 0, 0, 0, 2⟩ := (hW 21 (by decide))
      exact n_slice [⟨10, 0, 0, 0, 0, 0, 2⟩] #[(0, .tmp 325)] (opAtW ho (by kernel_rfl)) rfl (by kernel_rfl) (by decide) (by decide) (by simp [Act.eval, p325]) (fun v w' hb' hs => hK v w' hb' hs)
    | 23, _ =>
      exact n_many 326 (opAtW ho (by kernel_rfl)) (hW 22 (by decide)) (fun u w' hb' hs => hK u w' hb' hs)
    | 24, _ =>
      have p324 : SlA [⟨1, 1, 0, 0, 0, 0, 0⟩, ⟨4, 1, 0, 0, 0, 0, 0⟩, ⟨1, 0, 0, 0, 0, 0, 0⟩] (a.tmps[324]?.getD undef) w := (hW 20 (by decide))
      have p327 : SlA [⟨10, 0, 0, 0, 0, 0, 2⟩] (a.tmps[327]?.getD undef) w := (hW 23 (by decide))
      refine n_lists [[⟨1, 1, 0, 0, 0, 0, 0⟩, ⟨4, 1, 0, 0, 0, 0, 0⟩, ⟨1, 0, 0, 0, 0, 0, 0⟩], [⟨10, 0, 0, 0, 0, 0, 2⟩]] [a.tmps[324]?.getD undef, a.tmps[327]?.getD undef] #[(0, .tmp 324), (1, .tmp 327)] (opAtW ho (by kernel_rfl)) rfl rfl (by decide) (by decide) (fun j h => ?_) (by simp [Act.eval]) (fun v w' hb' hs => hK v w' hb' hs)
      match j, h with
      | 0, _ => exact p324
      | 1, _ => exact p327
      | j + 2, h => exact absurd h (by simp)
    | 25, _ =>
      exact n_join 328 [⟨1, 1, 0, 0, 0, 0, 0⟩, ⟨4, 1, 0, 0, 0, 0, 0⟩, ⟨1, 0, 0, 0, 0, 0, 0⟩, ⟨10, 0, 0, 0, 0, 0, 2⟩] (opAtW ho (by kernel_rfl)) (hW 24 (by decide)) (by decide) (by decide) rfl (fun u w' hb' hs => hK u w' hb' hs)
    | 26, _ =>
      exact n_bad HC (HC.below W w ht hb) 329 true (opAtW ho (by kernel_rfl)) (hW 25 (by decide)) (by decide) (by decide) (by kernel_rfl) (fun w' hb' => hK _ w' hb' rfl)
    | 27, _ =>
      exact u_notT 330 (opAtW ho (by kernel_rfl)) (hW 26 (by decide)) (hK _ _ (Below.refl _ _) rfl)
    | 28, _ =>
      exact v_orF 323 331 (opAtW ho (by kernel_rfl)) (hW 19 (by decide)) (hW 27 (by decide)) (hK _ _ (Below.refl _ _) rfl)
    | 29, _ =>
      exact v_move 332 (opAtW ho (by kernel_rfl)) (hW 28 (by decide)) (hK _ _ (Below.refl _ _) rfl)
    | 30, _ =>
      exact v_move 15 (opAtW ho (by kernel_rfl)) rfl (hK _ _ (Below.refl _ _) (q15 a w hT hb))
    | 31, _ =>
      exact o_why (opAtW ho (by kernel_rfl)) (why_any 4 0 w) (fun w' hb' => hK _ w' hb' rfl)
    | 32, _ =>
      have p335 : a.tmps[335]?.getD undef = evV ⟨10, 0, 0, 0, 0, 0, 4⟩ := (hW 31 (by decide))
      exact n_slice [⟨10, 0, 0, 0, 0, 0, 4⟩] #[(0, .tmp 335)] (opAtW ho (by kernel_rfl)) rfl (by kernel_rfl) (by decide) (by decide) (by simp [Act.eval, p335]) (fun v w' hb' hs => hK v w' hb' hs)
    | 33, _ =>
      exact n_many 336 (opAtW ho (by kernel_rfl)) (hW 32 (by decide)) (fun u w' hb' hs => hK u w' hb' hs)
    | 34, _ =>
      have p334 : SlA [⟨1, 1, 0, 0, 0, 0, 0⟩, ⟨4, 1, 0, 0, 0, 0, 0⟩, ⟨1, 0, 0, 0, 0, 0, 0⟩] (a.tmps[334]?.getD undef) w := (hW 30 (by decide))
      have p337 : SlA [⟨10, 0, 0, 0, 0, 0, 4⟩] (a.tmps[337]?.getD undef) w := (hW 33 (by decide))
      refine n_lists [[⟨1, 1, 0, 0, 0, 0, 0⟩, ⟨4, 1, 0, 0, 0, 0, 0⟩, ⟨1, 0, 0, 0, 0, 0, 0⟩], [⟨10, 0, 0, 0, 0, 0, 4⟩]] [a.tmps[334]?.getD undef, a.tmps[337]?.getD undef] #[(0, .tmp 334), (1, .tmp 337)] (opAtW ho (by kernel_rfl)) rfl rfl (by decide) (by decide) (fun j h => ?_) (by simp [Act.eval]) (fun v w' hb' hs => hK v w' hb' hs)
      match j, h with
      | 0, _ => exact p334
      | 1, _ => exact p337
      | j + 2, h => exact absurd h (by simp)
    | 35, _ =>
      exact n_join 338 [⟨1, 1, 0, 0, 0, 0, 0⟩, ⟨4, 1, 0, 0, 0, 0, 0⟩, ⟨1, 0, 0, 0, 0, 0, 0⟩, ⟨10, 0, 0, 0, 0, 0, 4⟩] (opAtW ho (by kernel_rfl)) (hW 34 (by decide)) (by decide) (by decide) rfl (fun u w' hb' hs => hK u w' hb' hs)
    | 36, _ =>
      exact n_over 339 (opAtW ho (by kernel_rfl)) (hW 35 (by decide)) (fun u w' hb' hs => hK u w' hb' hs)
    | 37, _ =>
      exact n_fine HC (HC.below W w ht hb) 340 true (opAtW ho (by kernel_rfl)) (hW 36 (by decide)) (by decide) (by decide) (by decide) (by decide) (by kernel_rfl) (fun w' hb' => hK _ w' hb' rfl)
    | 38, _ =>
      exact u_notT 341 (opAtW ho (by kernel_rfl)) (hW 37 (by decide)) (hK _ _ (Below.refl _ _) rfl)
    | 39, _ =>
      exact v_orF 333 342 (opAtW ho (by kernel_rfl)) (hW 29 (by decide)) (hW 38 (by decide)) (hK _ _ (Below.refl _ _) rfl)
    | 40, _ =>
      exact v_move 343 (opAtW ho (by kernel_rfl)) (hW 39 (by decide)) (hK _ _ (Below.refl _ _) rfl)
    | 41, _ =>
      exact v_move 15 (opAtW ho (by kernel_rfl)) rfl (hK _ _ (Below.refl _ _) (q15 a w hT hb))
    | 42, _ =>
      exact n_load 9 (opAtW ho (by kernel_rfl)) (q9 a w hT hb) (hK _ _ (Below.refl _ _) rfl)
    | 43, _ =>
      have p346 : a.tmps[346]?.getD undef = evV ⟨4, 0, 0, 0, 0, 0, 0⟩ := (hW 42 (by decide))
      exact n_slice [⟨4, 0, 0, 0, 0, 0, 0⟩] #[(0, .tmp 346)] (opAtW ho (by kernel_rfl)) rfl (by kernel_rfl) (by decide) (by decide) (by simp [Act.eval, p346]) (fun v w' hb' hs => hK v w' hb' hs)
    | 44, _ =>
      exact n_many 347 (opAtW ho (by kernel_rfl)) (hW 43 (by decide)) (fun u w' hb' hs => hK u w' hb' hs)
    | 45, _ =>
      have p345 : SlA [⟨1, 1, 0, 0, 0, 0, 0⟩, ⟨4, 1, 0, 0, 0, 0, 0⟩, ⟨1, 0, 0, 0, 0, 0, 0⟩] (a.tmps[345]?.getD undef) w := (hW 41 (by decide))
      have p348 : SlA [⟨4, 0, 0, 0, 0, 0, 0⟩] (a.tmps[348]?.getD undef) w := (hW 44 (by decide))
      refine n_lists [[⟨1, 1, 0, 0, 0, 0, 0⟩, ⟨4, 1, 0, 0, 0, 0, 0⟩, ⟨1, 0, 0, 0, 0, 0, 0⟩], [⟨4, 0, 0, 0, 0, 0, 0⟩]] [a.tmps[345]?.getD undef, a.tmps[348]?.getD undef] #[(0, .tmp 345), (1, .tmp 348)] (opAtW ho (by kernel_rfl)) rfl rfl (by decide) (by decide) (fun j h => ?_) (by simp [Act.eval]) (fun v w' hb' hs => hK v w' hb' hs)
      match j, h with
      | 0, _ => exact p345
      | 1, _ => exact p348
      | j + 2, h => exact absurd h (by simp)
    | 46, _ =>
      exact n_join 349 [⟨1, 1, 0, 0, 0, 0, 0⟩, ⟨4, 1, 0, 0, 0, 0, 0⟩, ⟨1, 0, 0, 0, 0, 0, 0⟩, ⟨4, 0, 0, 0, 0, 0, 0⟩] (opAtW ho (by kernel_rfl)) (hW 45 (by decide)) (by decide) (by decide) rfl (fun u w' hb' hs => hK u w' hb' hs)
    | 47, _ =>
      exact n_bad HC (HC.below W w ht hb) 350 true (opAtW ho (by kernel_rfl)) (hW 46 (by decide)) (by decide) (by decide) (by kernel_rfl) (fun w' hb' => hK _ w' hb' rfl)
    | 48, _ =>
      exact u_notT 351 (opAtW ho (by kernel_rfl)) (hW 47 (by decide)) (hK _ _ (Below.refl _ _) rfl)
    | 49, _ =>
      exact v_orF 344 352 (opAtW ho (by kernel_rfl)) (hW 40 (by decide)) (hW 48 (by decide)) (hK _ _ (Below.refl _ _) rfl)
    | 50, _ =>
      exact v_move 353 (opAtW ho (by kernel_rfl)) (hW 49 (by decide)) (hK _ _ (Below.refl _ _) rfl)
    | 51, _ =>
      exact v_move 15 (opAtW ho (by kernel_rfl)) rfl (hK _ _ (Below.refl _ _) (q15 a w hT hb))
    | 52, _ =>
      exact o_ev (opAtW ho (by kernel_rfl)) (ev_any (4) (1) (0) w) (fun w' hb' => hK _ w' hb' rfl)
    | 53, _ =>
      have p356 : a.tmps[356]?.getD undef = evV ⟨4, 0, 0, 1, 0, 0, 0⟩ := (hW 52 (by decide))
      exact n_slice [⟨4, 0, 0, 1, 0, 0, 0⟩] #[(0, .tmp 356)] (opAtW ho (by kernel_rfl)) rfl (by kernel_rfl) (by decide) (by decide) (by simp [Act.eval, p356]) (fun v w' hb' hs => hK v w' hb' hs)
    | 54, _ =>
      exact n_many 357 (opAtW ho (by kernel_rfl)) (hW 53 (by decide)) (fun u w' hb' hs => hK u w' hb' hs)
    | 55, _ =>
      have p355 : SlA [⟨1, 1, 0, 0, 0, 0, 0⟩, ⟨4, 1, 0, 0, 0, 0, 0⟩, ⟨1, 0, 0, 0, 0, 0, 0⟩] (a.tmps[355]?.getD undef) w := (hW 51 (by decide))
      have p358 : SlA [⟨4, 0, 0, 1, 0, 0, 0⟩] (a.tmps[358]?.getD undef) w := (hW 54 (by decide))
      refine n_lists [[⟨1, 1, 0, 0, 0, 0, 0⟩, ⟨4, 1, 0, 0, 0, 0, 0⟩, ⟨1, 0, 0, 0, 0, 0, 0⟩], [⟨4, 0, 0, 1, 0, 0, 0⟩]] [a.tmps[355]?.getD undef, a.tmps[358]?.getD undef] #[(0, .tmp 355), (1, .tmp 358)] (opAtW ho (by kernel_rfl)) rfl rfl (by decide) (by decide) (fun j h => ?_) (by simp [Act.eval]) (fun v w' hb' hs => hK v w' hb' hs)
      match j, h with
      | 0, _ => exact p355
      | 1, _ => exact p358
      | j + 2, h => exact absurd h (by simp)
    | 56, _ =>
      exact n_join 359 [⟨1, 1, 0, 0, 0, 0, 0⟩, ⟨4, 1, 0, 0, 0, 0, 0⟩, ⟨1, 0, 0, 0, 0, 0, 0⟩, ⟨4, 0, 0, 1, 0, 0, 0⟩] (opAtW ho (by kernel_rfl)) (hW 55 (by decide)) (by decide) (by decide) rfl (fun u w' hb' hs => hK u w' hb' hs)
    | 57, _ =>
      exact n_over 360 (opAtW ho (by kernel_rfl)) (hW 56 (by decide)) (fun u w' hb' hs => hK u w' hb' hs)
    | 58, _ =>
      exact n_fine HC (HC.below W w ht hb) 361 true (opAtW ho (by kernel_rfl)) (hW 57 (by decide)) (by decide) (by decide) (by decide) (by decide) (by kernel_rfl) (fun w' hb' => hK _ w' hb' rfl)
    | 59, _ =>
      exact u_notT 362 (opAtW ho (by kernel_rfl)) (hW 58 (by decide)) (hK _ _ (Below.refl _ _) rfl)
    | 60, _ =>
      exact v_orF 354 363 (opAtW ho (by kernel_rfl)) (hW 50 (by decide)) (hW 59 (by decide)) (hK _ _ (Below.refl _ _) rfl)
    | 61, _ =>
      exact v_move 364 (opAtW ho (by kernel_rfl)) (hW 60 (by decide)) (hK _ _ (Below.refl _ _) rfl)
    | 62, _ =>
      exact v_move 15 (opAtW ho (by kernel_rfl)) rfl (hK _ _ (Below.refl _ _) (q15 a w hT hb))
    | 63, _ =>
      exact o_ev (opAtW ho (by kernel_rfl)) (ev_any (4) (1) (0) w) (fun w' hb' => hK _ w' hb' rfl)
    | 64, _ =>
      exact o_why (opAtW ho (by kernel_rfl)) (why_any 4 0 w) (fun w' hb' => hK _ w' hb' rfl)
    | 65, _ =>
      have p367 : a.tmps[367]?.getD undef = evV ⟨4, 0, 0, 1, 0, 0, 0⟩ := (hW 63 (by decide))
      have p368 : a.tmps[368]?.getD undef = evV ⟨10, 0, 0, 0, 0, 0, 4⟩ := (hW 64 (by decide))
      exact n_slice [⟨4, 0, 0, 1, 0, 0, 0⟩, ⟨10, 0, 0, 0, 0, 0, 4⟩] #[(0, .tmp 367), (1, .tmp 368)] (opAtW ho (by kernel_rfl)) rfl (by kernel_rfl) (by decide) (by decide) (by simp [Act.eval, p367, p368]) (fun v w' hb' hs => hK v w' hb' hs)
    | 66, _ =>
      exact n_many 369 (opAtW ho (by kernel_rfl)) (hW 65 (by decide)) (fun u w' hb' hs => hK u w' hb' hs)
    | 67, _ =>
      have p366 : SlA [⟨1, 1, 0, 0, 0, 0, 0⟩, ⟨4, 1, 0, 0, 0, 0, 0⟩, ⟨1, 0, 0, 0, 0, 0, 0⟩] (a.tmps[366]?.getD undef) w := (hW 62 (by decide))
      have p370 : SlA [⟨4, 0, 0, 1, 0, 0, 0⟩, ⟨10, 0, 0, 0, 0, 0, 4⟩] (a.tmps[370]?.getD undef) w := (hW 66 (by decide))
      refine n_lists [[⟨1, 1, 0, 0, 0, 0, 0⟩, ⟨4, 1, 0, 0, 0, 0, 0⟩, ⟨1, 0, 0, 0, 0, 0, 0⟩], [⟨4, 0, 0, 1, 0, 0, 0⟩, ⟨10, 0, 0, 0, 0, 0, 4⟩]] [a.tmps[366]?.getD undef, a.tmps[370]?.getD undef] #[(0, .tmp 366), (1, .tmp 370)] (opAtW ho (by kernel_rfl)) rfl rfl (by decide) (by decide) (fun j h => ?_) (by simp [Act.eval]) (fun v w' hb' hs => hK v w' hb' hs)
      match j, h with
      | 0, _ => exact p366
      | 1, _ => exact p370
      | j + 2, h => exact absurd h (by simp)
    | 68, _ =>
      exact n_join 371 [⟨1, 1, 0, 0, 0, 0, 0⟩, ⟨4, 1, 0, 0, 0, 0, 0⟩, ⟨1, 0, 0, 0, 0, 0, 0⟩, ⟨4, 0, 0, 1, 0, 0, 0⟩, ⟨10, 0, 0, 0, 0, 0, 4⟩] (opAtW ho (by kernel_rfl)) (hW 67 (by decide)) (by decide) (by decide) rfl (fun u w' hb' hs => hK u w' hb' hs)
    | 69, _ =>
      exact n_bad HC (HC.below W w ht hb) 372 true (opAtW ho (by kernel_rfl)) (hW 68 (by decide)) (by decide) (by decide) (by kernel_rfl) (fun w' hb' => hK _ w' hb' rfl)
    | 70, _ =>
      exact u_notT 373 (opAtW ho (by kernel_rfl)) (hW 69 (by decide)) (hK _ _ (Below.refl _ _) rfl)
    | 71, _ =>
      exact v_orF 365 374 (opAtW ho (by kernel_rfl)) (hW 61 (by decide)) (hW 70 (by decide)) (hK _ _ (Below.refl _ _) rfl)
    | i + 72, h => exact absurd (show i + 72 < 72 from h) (by omega)
  · intro us w hu hb hS
    have hat : ∀ j (hj : j < sn29_ds.length), (putAll T0 sn29_ds us)[sn29_ds[j]]?.getD undef = us.getD j undef := fun j hj => by
      rw [putAll_at T0 sn29_ds us j hj hu.symm (by decide) (hlt _ (List.getElem_mem hj)), ← List.getD_eq_getElem?_getD]
    have r375 := hS 71 (by decide)
    rw [← hat 71 (by decide)] at r375
    exact hend _ w (by rw [putAll_size]; exact hsz) hb (fun x hx => putAll_far sn29_ds us T0 x hx) r375
noncomputable def sn31_ops : Array Oper := opsW Tryd.f3 31
def sn31_ds : List Nat := [376, 377, 378, 379, 380, 381, 382, 383, 384, 385, 386, 387, 388, 16]
def sn31_S : Nat → Value → World → Prop
  | 0, v, w => v = evV ⟨1, 0, 0, 0, 0, 0, 0⟩
  | 1, v, w => v = evV ⟨1, 1, 0, 0, 0, 0, 0⟩
  | 2, v, w => SlA [⟨1, 1, 0, 0, 0, 0, 0⟩] (v) w
  | 3, v, w => SlA [⟨1, 1, 0, 0, 0, 0, 0⟩] (v) w
  | 4, v, w => SlA [⟨1, 0, 0, 0, 0, 0, 0⟩, ⟨4, 0, 0, 0, 0, 0, 0⟩, ⟨5, 0, 0, 0, 1, 0, 0⟩, ⟨7, 0, 0, 0, 1, 0, 0⟩, ⟨8, 0, 0, 0, 0, 0, 0⟩, ⟨9, 0, 0, 0, 0, 0, 0⟩] (v) w
  | 5, v, w => v = evV ⟨10, 0, 0, 0, 0, 0, 2⟩
  | 6, v, w => v = evV ⟨10, 1, 0, 0, 0, 0, 2⟩
  | 7, v, w => v = evV ⟨1, 0, 0, 0, 1, 0, 0⟩
  | 8, v, w => v = evV ⟨1, 1, 0, 0, 1, 0, 0⟩
  | 9, v, w => SlA [⟨10, 1, 0, 0, 0, 0, 2⟩, ⟨1, 1, 0, 0, 1, 0, 0⟩] (v) w
  | 10, v, w => SlA [⟨10, 1, 0, 0, 0, 0, 2⟩, ⟨1, 1, 0, 0, 1, 0, 0⟩] (v) w
  | 11, v, w => LsA [[⟨1, 1, 0, 0, 0, 0, 0⟩], [⟨1, 0, 0, 0, 0, 0, 0⟩, ⟨4, 0, 0, 0, 0, 0, 0⟩, ⟨5, 0, 0, 0, 1, 0, 0⟩, ⟨7, 0, 0, 0, 1, 0, 0⟩, ⟨8, 0, 0, 0, 0, 0, 0⟩, ⟨9, 0, 0, 0, 0, 0, 0⟩], [⟨10, 1, 0, 0, 0, 0, 2⟩, ⟨1, 1, 0, 0, 1, 0, 0⟩]] (v) w
  | 12, v, w => SlA [⟨1, 1, 0, 0, 0, 0, 0⟩, ⟨1, 0, 0, 0, 0, 0, 0⟩, ⟨4, 0, 0, 0, 0, 0, 0⟩, ⟨5, 0, 0, 0, 1, 0, 0⟩, ⟨7, 0, 0, 0, 1, 0, 0⟩, ⟨8, 0, 0, 0, 0, 0, 0⟩, ⟨9, 0, 0, 0, 0, 0, 0⟩, ⟨10, 1, 0, 0, 0, 0, 2⟩, ⟨1, 1, 0, 0, 1, 0, 0⟩] (v) w
  | 13, v, w => SlA [⟨1, 1, 0, 0, 0, 0, 0⟩, ⟨1, 0, 0, 0, 0, 0, 0⟩, ⟨4, 0, 0, 0, 0, 0, 0⟩, ⟨5, 0, 0, 0, 1, 0, 0⟩, ⟨7, 0, 0, 0, 1, 0, 0⟩, ⟨8, 0, 0, 0, 0, 0, 0⟩, ⟨9, 0, 0, 0, 0, 0, 0⟩, ⟨10, 1, 0, 0, 0, 0, 2⟩, ⟨1, 1, 0, 0, 1, 0, 0⟩] (v) w
  | _ + 14, _, _ => False
theorem sn31_mono (i : Nat) (v : Value) (w w' : World) (b : Below w.heap.size w w') (h : sn31_S i v w) : sn31_S i v w' := by
  match i, h with
  | 0, h => exact h
  | 1, h => exact h
  | 2, h => exact SlA.stays h b
  | 3, h => exact SlA.stays h b
  | 4, h => exact SlA.stays h b
  | 5, h => exact h
  | 6, h => exact h
  | 7, h => exact h
  | 8, h => exact h
  | 9, h => exact SlA.stays h b
  | 10, h => exact SlA.stays h b
  | 11, h => exact LsA.stays h b
  | 12, h => exact SlA.stays h b
  | 13, h => exact SlA.stays h b
set_option maxRecDepth 100000 in
set_option maxHeartbeats 4000000 in
theorem sn31 {Tb : World → Prop} (HC : CheckC Tb) {id : Nat} {ops : Array Oper} (hops : ops = sn31_ops) (T0 : Array Value) (hsz : T0.size = 726) (W : World) (ht : Tb W) (p6 : PtE ⟨1, 0, 0, 0, 0, 0, 0⟩ (T0[6]?.getD undef) W) (p11 : SlA [⟨1, 0, 0, 0, 0, 0, 0⟩, ⟨4, 0, 0, 0, 0, 0, 0⟩, ⟨5, 0, 0, 0, 1, 0, 0⟩, ⟨7, 0, 0, 0, 1, 0, 0⟩, ⟨8, 0, 0, 0, 0, 0, 0⟩, ⟨9, 0, 0, 0, 0, 0, 0⟩] (T0[11]?.getD undef) W) (p12 : PtE ⟨1, 0, 0, 0, 1, 0, 0⟩ (T0[12]?.getD undef) W) {Q : Exit → Act → World → Prop}
    (hend : ∀ (T : Array Value) (w : World), T.size = 726 → Below W.heap.size W w → (∀ x, x ∉ sn31_ds → T[x]? = T0[x]?) → SlA [⟨1, 1, 0, 0, 0, 0, 0⟩, ⟨1, 0, 0, 0, 0, 0, 0⟩, ⟨4, 0, 0, 0, 0, 0, 0⟩, ⟨5, 0, 0, 0, 1, 0, 0⟩, ⟨7, 0, 0, 0, 1, 0, 0⟩, ⟨8, 0, 0, 0, 0, 0, 0⟩, ⟨9, 0, 0, 0, 0, 0, 0⟩, ⟨10, 1, 0, 0, 0, 0, 2⟩, ⟨1, 1, 0, 0, 1, 0, 0⟩] (T[16]?.getD undef) w → Q .normal ⟨T, []⟩ w) : (Code.region id ops true).wp Tryd.prog Q ⟨T0, []⟩ W := by
  subst hops
  have hos : sn31_ops.size = 14 := by kernel_rfl
  have hga : (List.range 14).all (fun i => match sn31_ops[i]? with | some o => o.guard == ([none, none, none, none, none, none, none, none, none, none, none, none, none, none] : List (Option (Nat × Bool))).getD i none | none => false) = true := by kernel_rfl
  have q6 : ∀ (a : Act) (w : World), (∀ t, t ∉ sn31_ds → a.tmps[t]?.getD undef = T0[t]?.getD undef) → Below W.heap.size W w → PtE ⟨1, 0, 0, 0, 0, 0, 0⟩ (a.tmps[6]?.getD undef) w := fun a w hT hb => by rw [hT 6 (by decide)]; exact PtE.stays p6 hb
  have q11 : ∀ (a : Act) (w : World), (∀ t, t ∉ sn31_ds → a.tmps[t]?.getD undef = T0[t]?.getD undef) → Below W.heap.size W w → SlA [⟨1, 0, 0, 0, 0, 0, 0⟩, ⟨4, 0, 0, 0, 0, 0, 0⟩, ⟨5, 0, 0, 0, 1, 0, 0⟩, ⟨7, 0, 0, 0, 1, 0, 0⟩, ⟨8, 0, 0, 0, 0, 0, 0⟩, ⟨9, 0, 0, 0, 0, 0, 0⟩] (a.tmps[11]?.getD undef) w := fun a w hT hb => by rw [hT 11 (by decide)]; exact SlA.stays p11 hb
  have q12 : ∀ (a : Act) (w : World), (∀ t, t ∉ sn31_ds → a.tmps[t]?.getD undef = T0[t]?.getD undef) → Below W.heap.size W w → PtE ⟨1, 0, 0, 0, 1, 0, 0⟩ (a.tmps[12]?.getD undef) w := fun a w hT hb => by rw [hT 12 (by decide)]; exact PtE.stays p12 hb
  have hlt : ∀ x ∈ sn31_ds, x < T0.size := fun x hx => by
    have hall : (sn31_ds.all fun d => decide (d < 726)) = true := by decide
    have := List.all_eq_true.1 hall x hx
    simp only [decide_eq_true_eq] at this
    omega
  refine wp_region_kinds3 sn31_S sn31_ds W T0 (by decide) hlt (by kernel_rfl) (by kernel_rfl) (fun i o j want ho hgd => ?_) sn31_mono ?_ ?_
  · have hi : i < 14 := by rw [← hos]; exact (Array.getElem?_eq_some_iff.1 ho).1
    have h1 := List.all_eq_true.1 hga i (by simpa using hi)
    rw [ho] at h1
    simp only [hgd, beq_iff_eq] at h1
    match i, hi with
    | 0, _ => cases h1
    | 1, _ => cases h1
    | 2, _ => cases h1
    | 3, _ => cases h1
    | 4, _ => cases h1
    | 5, _ => cases h1
    | 6, _ => cases h1
    | 7, _ => cases h1
    | 8, _ => cases h1
    | 9, _ => cases h1
    | 10, _ => cases h1
    | 11, _ => cases h1
    | 12, _ => cases h1
    | 13, _ => cases h1
    | i + 14, h => exact absurd (show i + 14 < 14 from h) (by omega)
  · intro i o ho hi a w hT hW hb K hK
    match i, hi with
    | 0, _ =>
      exact n_load 6 (opAtW ho (by kernel_rfl)) (q6 a w hT hb) (hK _ _ (Below.refl _ _) rfl)
    | 1, _ =>
      exact o_by 376 (opAtW ho (by kernel_rfl)) (hW 0 (by kernel_rfl)) (by_any 1 ⟨1, 0, 0, 0, 0, 0, 0⟩ w) (fun w' hb' => hK _ w' hb' rfl)
    | 2, _ =>
      have p377 : a.tmps[377]?.getD undef = evV ⟨1, 1, 0, 0, 0, 0, 0⟩ := (hW 1 (by kernel_rfl))
      exact n_slice [⟨1, 1, 0, 0, 0, 0, 0⟩] #[(0, .tmp 377)] (opAtW ho (by kernel_rfl)) rfl (by kernel_rfl) (by decide) (by decide) (by simp [Act.eval, p377]) (fun v w' hb' hs => hK v w' hb' hs)
    | 3, _ =>
      exact n_many 378 (opAtW ho (by kernel_rfl)) (hW 2 (by kernel_rfl)) (fun u w' hb' hs => hK u w' hb' hs)
    | 4, _ =>
      exact v_move 11 (opAtW ho (by kernel_rfl)) rfl (hK _ _ (Below.refl _ _) (q11 a w hT hb))
    | 5, _ =>
      exact o_why (opAtW ho (by kernel_rfl)) (why_any 2 0 w) (fun w' hb' => hK _ w' hb' rfl)
    | 6, _ =>
      exact o_by 381 (opAtW ho (by kernel_rfl)) (hW 5 (by kernel_rfl)) (by_any 1 ⟨10, 0, 0, 0, 0, 0, 2⟩ w) (fun w' hb' => hK _ w' hb' rfl)
    | 7, _ =>
      exact n_load 12 (opAtW ho (by kernel_rfl)) (q12 a w hT hb) (hK _ _ (Below.refl _ _) rfl)
    | 8, _ =>
      exact o_by 383 (opAtW ho (by kernel_rfl)) (hW 7 (by kernel_rfl)) (by_any 1 ⟨1, 0, 0, 0, 1, 0, 0⟩ w) (fun w' hb' => hK _ w' hb' rfl)
    | 9, _ =>
      have p382 : a.tmps[382]?.getD undef = evV ⟨10, 1, 0, 0, 0, 0, 2⟩ := (hW 6 (by kernel_rfl))
      have p384 : a.tmps[384]?.getD undef = evV ⟨1, 1, 0, 0, 1, 0, 0⟩ := (hW 8 (by kernel_rfl))
      exact n_slice [⟨10, 1, 0, 0, 0, 0, 2⟩, ⟨1, 1, 0, 0, 1, 0, 0⟩] #[(0, .tmp 382), (1, .tmp 384)] (opAtW ho (by kernel_rfl)) rfl (by kernel_rfl) (by decide) (by decide) (by simp [Act.eval, p382, p384]) (fun v w' hb' hs => hK v w' hb' hs)
    | 10, _ =>
      exact n_many 385 (opAtW ho (by kernel_rfl)) (hW 9 (by kernel_rfl)) (fun u w' hb' hs => hK u w' hb' hs)
    | 11, _ =>
      have p379 : SlA [⟨1, 1, 0, 0, 0, 0, 0⟩] (a.tmps[379]?.getD undef) w := (hW 3 (by kernel_rfl))
      have p380 : SlA [⟨1, 0, 0, 0, 0, 0, 0⟩, ⟨4, 0, 0, 0, 0, 0, 0⟩, ⟨5, 0, 0, 0, 1, 0, 0⟩, ⟨7, 0, 0, 0, 1, 0, 0⟩, ⟨8, 0, 0, 0, 0, 0, 0⟩, ⟨9, 0, 0, 0, 0, 0, 0⟩] (a.tmps[380]?.getD undef) w := (hW 4 (by kernel_rfl))
      have p386 : SlA [⟨10, 1, 0, 0, 0, 0, 2⟩, ⟨1, 1, 0, 0, 1, 0, 0⟩] (a.tmps[386]?.getD undef) w := (hW 10 (by kernel_rfl))
      refine n_lists [[⟨1, 1, 0, 0, 0, 0, 0⟩], [⟨1, 0, 0, 0, 0, 0, 0⟩, ⟨4, 0, 0, 0, 0, 0, 0⟩, ⟨5, 0, 0, 0, 1, 0, 0⟩, ⟨7, 0, 0, 0, 1, 0, 0⟩, ⟨8, 0, 0, 0, 0, 0, 0⟩, ⟨9, 0, 0, 0, 0, 0, 0⟩], [⟨10, 1, 0, 0, 0, 0, 2⟩, ⟨1, 1, 0, 0, 1, 0, 0⟩]] [a.tmps[379]?.getD undef, a.tmps[380]?.getD undef, a.tmps[386]?.getD undef] #[(0, .tmp 379), (1, .tmp 380), (2, .tmp 386)] (opAtW ho (by kernel_rfl)) rfl rfl (by decide) (by decide) (fun j h => ?_) (by simp [Act.eval]) (fun v w' hb' hs => hK v w' hb' hs)
      match j, h with
      | 0, _ => exact p379
      | 1, _ => exact p380
      | 2, _ => exact p386
      | j + 3, h => exact absurd h (by simp)
    | 12, _ =>
      exact n_join 387 [⟨1, 1, 0, 0, 0, 0, 0⟩, ⟨1, 0, 0, 0, 0, 0, 0⟩, ⟨4, 0, 0, 0, 0, 0, 0⟩, ⟨5, 0, 0, 0, 1, 0, 0⟩, ⟨7, 0, 0, 0, 1, 0, 0⟩, ⟨8, 0, 0, 0, 0, 0, 0⟩, ⟨9, 0, 0, 0, 0, 0, 0⟩, ⟨10, 1, 0, 0, 0, 0, 2⟩, ⟨1, 1, 0, 0, 1, 0, 0⟩] (opAtW ho (by kernel_rfl)) (hW 11 (by kernel_rfl)) (by decide) (by decide) rfl (fun u w' hb' hs => hK u w' hb' hs)
    | 13, _ =>
      exact v_assign 388 (opAtW ho (by kernel_rfl)) rfl (hK _ _ (Below.refl _ _) (hW 12 (by kernel_rfl)))
    | i + 14, h => exact absurd (show i + 14 < 14 from h) (by omega)
  · intro us w hu hb hS
    have hat : ∀ j (hj : j < sn31_ds.length), (putAll T0 sn31_ds us)[sn31_ds[j]]?.getD undef = us.getD j undef := fun j hj => by
      rw [putAll_at T0 sn31_ds us j hj hu.symm (by decide) (hlt _ (List.getElem_mem hj)), ← List.getD_eq_getElem?_getD]
    have r16 := hS 13 (by decide)
    rw [← hat 13 (by decide)] at r16
    exact hend _ w (by rw [putAll_size]; exact hsz) hb (fun x hx => putAll_far sn31_ds us T0 x hx) r16
end Go.Proofs.YtjennlkindbpoaaDoor
/-
  FOR ShapeNames: its regions 32, 34, 35, 36, by kinds. Laid by gen/gen_sn.py. Conditions: CheckC.
-/
namespace Go.Proofs.YtjennlkindbpoaaDoor
set_option maxRecDepth 100000
open Go.RowKit Go.Deep
set_option linter.unusedVariables false

noncomputable def sn32_ops : Array Oper := opsW Tryd.f3 32
def sn32_ds : List Nat := [389, 390, 391, 392, 393, 394, 395, 396, 397, 398, 399, 400, 401]
def sn32_S : Nat → Value → World → Prop
  | 0, v, w => SlA [⟨1, 1, 0, 0, 0, 0, 0⟩, ⟨1, 0, 0, 0, 0, 0, 0⟩, ⟨4, 0, 0, 0, 0, 0, 0⟩, ⟨5, 0, 0, 0, 1, 0, 0⟩, ⟨7, 0, 0, 0, 1, 0, 0⟩, ⟨8, 0, 0, 0, 0, 0, 0⟩, ⟨9, 0, 0, 0, 0, 0, 0⟩, ⟨10, 1, 0, 0, 0, 0, 2⟩, ⟨1, 1, 0, 0, 1, 0, 0⟩] (v) w
  | 1, v, w => TrA 3 4 2 [⟨1, 1, 0, 0, 0, 0, 0⟩, ⟨1, 0, 0, 0, 0, 0, 0⟩, ⟨4, 0, 0, 0, 0, 0, 0⟩, ⟨5, 0, 0, 0, 1, 0, 0⟩, ⟨7, 0, 0, 0, 1, 0, 0⟩, ⟨8, 0, 0, 0, 0, 0, 0⟩, ⟨9, 0, 0, 0, 0, 0, 0⟩, ⟨10, 1, 0, 0, 0, 0, 2⟩, ⟨1, 1, 0, 0, 1, 0, 0⟩] (v) w
  | 2, v, w => v = .bool true
  | 3, v, w => v = .bool false
  | 4, v, w => v = .bool false
  | 5, v, w => v = evV ⟨1, 0, 0, 0, 0, 0, 0⟩
  | 6, v, w => v = evV ⟨1, 1, 0, 0, 0, 0, 0⟩
  | 7, v, w => v = evV ⟨10, 0, 0, 0, 0, 0, 2⟩
  | 8, v, w => v = evV ⟨10, 1, 0, 0, 0, 0, 2⟩
  | 9, v, w => SlA [⟨1, 1, 0, 0, 0, 0, 0⟩, ⟨10, 1, 0, 0, 0, 0, 2⟩] (v) w
  | 10, v, w => v = .bool true
  | 11, v, w => v = .bool false
  | 12, v, w => v = .bool false
  | _ + 13, _, _ => False
theorem sn32_mono (i : Nat) (v : Value) (w w' : World) (b : Below w.heap.size w w') (h : sn32_S i v w) : sn32_S i v w' := by
  match i, h with
  | 0, h => exact SlA.stays h b
  | 1, h => exact TrA.stays h b
  | 2, h => exact h
  | 3, h => exact h
  | 4, h => exact h
  | 5, h => exact h
  | 6, h => exact h
  | 7, h => exact h
  | 8, h => exact h
  | 9, h => exact SlA.stays h b
  | 10, h => exact h
  | 11, h => exact h
  | 12, h => exact h
set_option maxRecDepth 100000 in
set_option maxHeartbeats 4000000 in
theorem sn32 {Tb : World → Prop} (HC : CheckC Tb) {id : Nat} {ops : Array Oper} (hops : ops = sn32_ops) (T0 : Array Value) (hsz : T0.size = 726) (W : World) (ht : Tb W) (p6 : PtE ⟨1, 0, 0, 0, 0, 0, 0⟩ (T0[6]?.getD undef) W) (p16 : SlA [⟨1, 1, 0, 0, 0, 0, 0⟩, ⟨1, 0, 0, 0, 0, 0, 0⟩, ⟨4, 0, 0, 0, 0, 0, 0⟩, ⟨5, 0, 0, 0, 1, 0, 0⟩, ⟨7, 0, 0, 0, 1, 0, 0⟩, ⟨8, 0, 0, 0, 0, 0, 0⟩, ⟨9, 0, 0, 0, 0, 0, 0⟩, ⟨10, 1, 0, 0, 0, 0, 2⟩, ⟨1, 1, 0, 0, 1, 0, 0⟩] (T0[16]?.getD undef) W) {Q : Exit → Act → World → Prop}
    (hend : ∀ (T : Array Value) (w : World), T.size = 726 → Below W.heap.size W w → (∀ x, x ∉ sn32_ds → T[x]? = T0[x]?) → T[401]?.getD undef = .bool false → Q .normal ⟨T, []⟩ w) : (Code.region id ops false).wp Tryd.prog Q ⟨T0, []⟩ W := by
  subst hops
  have hos : sn32_ops.size = 13 := by kernel_rfl
  have hga : (List.range 13).all (fun i => match sn32_ops[i]? with | some o => o.guard == ([none, none, none, none, none, some (4, false), some (4, false), some (4, false), some (4, false), some (4, false), some (4, false), some (4, false), none] : List (Option (Nat × Bool))).getD i none | none => false) = true := by kernel_rfl
  have q6 : ∀ (a : Act) (w : World), (∀ t, t ∉ sn32_ds → a.tmps[t]?.getD undef = T0[t]?.getD undef) → Below W.heap.size W w → PtE ⟨1, 0, 0, 0, 0, 0, 0⟩ (a.tmps[6]?.getD undef) w := fun a w hT hb => by rw [hT 6 (by decide)]; exact PtE.stays p6 hb
  have q16 : ∀ (a : Act) (w : World), (∀ t, t ∉ sn32_ds → a.tmps[t]?.getD undef = T0[t]?.getD undef) → Below W.heap.size W w → SlA [⟨1, 1, 0, 0, 0, 0, 0⟩, ⟨1, 0, 0, 0, 0, 0, 0⟩, ⟨4, 0, 0, 0, 0, 0, 0⟩, ⟨5, 0, 0, 0, 1, 0, 0⟩, ⟨7, 0, 0, 0, 1, 0, 0⟩, ⟨8, 0, 0, 0, 0, 0, 0⟩, ⟨9, 0, 0, 0, 0, 0, 0⟩, ⟨10, 1, 0, 0, 0, 0, 2⟩, ⟨1, 1, 0, 0, 1, 0, 0⟩] (a.tmps[16]?.getD undef) w := fun a w hT hb => by rw [hT 16 (by decide)]; exact SlA.stays p16 hb
  have hlt : ∀ x ∈ sn32_ds, x < T0.size := fun x hx => by
    have hall : (sn32_ds.all fun d => decide (d < 726)) = true := by decide
    have := List.all_eq_true.1 hall x hx
    simp only [decide_eq_true_eq] at this
    omega
  refine wp_region_kindsS sn32_S sn32_ds W T0 (by decide) hlt (by kernel_rfl) (fun i o j want ho hgd => ?_) sn32_mono ?_ ?_
  · have hi : i < 13 := by rw [← hos]; exact (Array.getElem?_eq_some_iff.1 ho).1
    have h1 := List.all_eq_true.1 hga i (by simpa using hi)
    rw [ho] at h1
    simp only [hgd, beq_iff_eq] at h1
    match i, hi with
    | 0, _ => cases h1
    | 1, _ => cases h1
    | 2, _ => cases h1
    | 3, _ => cases h1
    | 4, _ => cases h1
    | 5, _ => obtain ⟨rfl, rfl⟩ := Prod.mk.inj (Option.some.inj h1); exact fun v w h => h
    | 6, _ => obtain ⟨rfl, rfl⟩ := Prod.mk.inj (Option.some.inj h1); exact fun v w h => h
    | 7, _ => obtain ⟨rfl, rfl⟩ := Prod.mk.inj (Option.some.inj h1); exact fun v w h => h
    | 8, _ => obtain ⟨rfl, rfl⟩ := Prod.mk.inj (Option.some.inj h1); exact fun v w h => h
    | 9, _ => obtain ⟨rfl, rfl⟩ := Prod.mk.inj (Option.some.inj h1); exact fun v w h => h
    | 10, _ => obtain ⟨rfl, rfl⟩ := Prod.mk.inj (Option.some.inj h1); exact fun v w h => h
    | 11, _ => obtain ⟨rfl, rfl⟩ := Prod.mk.inj (Option.some.inj h1); exact fun v w h => h
    | 12, _ => cases h1
    | i + 13, h => exact absurd (show i + 13 < 13 from h) (by omega)
  · intro i o ho hi a w hT hW hb K hK
    match i, hi with
    | 0, _ =>
      exact v_move 16 (opAtW ho (by kernel_rfl)) rfl (hK _ _ (Below.refl _ _) (q16 a w hT hb))
    | 1, _ =>
      exact n_over 389 (opAtW ho (by kernel_rfl)) (hW 0 (by decide)) (fun u w' hb' hs => hK u w' hb' hs)
    | 2, _ =>
      exact n_fine HC (HC.below W w ht hb) 390 true (opAtW ho (by kernel_rfl)) (hW 1 (by decide)) (by decide) (by decide) (by decide) (by decide) (by kernel_rfl) (fun w' hb' => hK _ w' hb' rfl)
    | 3, _ =>
      exact u_notT 391 (opAtW ho (by kernel_rfl)) (hW 2 (by decide)) (hK _ _ (Below.refl _ _) rfl)
    | 4, _ =>
      exact v_move 392 (opAtW ho (by kernel_rfl)) (hW 3 (by decide)) (hK _ _ (Below.refl _ _) rfl)
    | 5, _ =>
      exact n_load 6 (opAtW ho (by kernel_rfl)) (q6 a w hT hb) (hK _ _ (Below.refl _ _) rfl)
    | 6, _ =>
      exact o_by 394 (opAtW ho (by kernel_rfl)) (hW 5 (by decide)) (by_any 1 ⟨1, 0, 0, 0, 0, 0, 0⟩ w) (fun w' hb' => hK _ w' hb' rfl)
    | 7, _ =>
      exact o_why (opAtW ho (by kernel_rfl)) (why_any 2 0 w) (fun w' hb' => hK _ w' hb' rfl)
    | 8, _ =>
      exact o_by 396 (opAtW ho (by kernel_rfl)) (hW 7 (by decide)) (by_any 1 ⟨10, 0, 0, 0, 0, 0, 2⟩ w) (fun w' hb' => hK _ w' hb' rfl)
    | 9, _ =>
      have p395 : a.tmps[395]?.getD undef = evV ⟨1, 1, 0, 0, 0, 0, 0⟩ := (hW 6 (by decide))
      have p397 : a.tmps[397]?.getD undef = evV ⟨10, 1, 0, 0, 0, 0, 2⟩ := (hW 8 (by decide))
      exact n_slice [⟨1, 1, 0, 0, 0, 0, 0⟩, ⟨10, 1, 0, 0, 0, 0, 2⟩] #[(0, .tmp 395), (1, .tmp 397)] (opAtW ho (by kernel_rfl)) rfl (by kernel_rfl) (by decide) (by decide) (by simp [Act.eval, p395, p397]) (fun v w' hb' hs => hK v w' hb' hs)
    | 10, _ =>
      exact n_bad HC (HC.below W w ht hb) 398 true (opAtW ho (by kernel_rfl)) (hW 9 (by decide)) (by decide) (by decide) (by kernel_rfl) (fun w' hb' => hK _ w' hb' rfl)
    | 11, _ =>
      exact u_notT 399 (opAtW ho (by kernel_rfl)) (hW 10 (by decide)) (hK _ _ (Below.refl _ _) rfl)
    | 12, _ =>
      exact v_orF 393 400 (opAtW ho (by kernel_rfl)) (hW 4 (by decide)) (hW 11 (by decide)) (hK _ _ (Below.refl _ _) rfl)
    | i + 13, h => exact absurd (show i + 13 < 13 from h) (by omega)
  · intro us w hu hb hS
    have hat : ∀ j (hj : j < sn32_ds.length), (putAll T0 sn32_ds us)[sn32_ds[j]]?.getD undef = us.getD j undef := fun j hj => by
      rw [putAll_at T0 sn32_ds us j hj hu.symm (by decide) (hlt _ (List.getElem_mem hj)), ← List.getD_eq_getElem?_getD]
    have r401 := hS 12 (by decide)
    rw [← hat 12 (by decide)] at r401
    exact hend _ w (by rw [putAll_size]; exact hsz) hb (fun x hx => putAll_far sn32_ds us T0 x hx) r401
noncomputable def sn34_ops : Array Oper := opsW Tryd.f3 34
def sn34_ds : List Nat := [402, 403, 404, 405, 406, 407, 408, 409, 410, 411, 17]
def sn34_S : Nat → Value → World → Prop
  | 0, v, w => v = evV ⟨1, 0, 0, 0, 0, 0, 0⟩
  | 1, v, w => v = evV ⟨1, 1, 0, 0, 0, 0, 0⟩
  | 2, v, w => v = evV ⟨2, 0, 0, 0, 0, 0, 0⟩
  | 3, v, w => v = evV ⟨2, 1, 0, 0, 0, 0, 0⟩
  | 4, v, w => v = evV ⟨3, 0, 0, 2, 0, 0, 0⟩
  | 5, v, w => v = evV ⟨3, 1, 0, 2, 0, 0, 0⟩
  | 6, v, w => v = evV ⟨4, 0, 0, 1, 0, 0, 0⟩
  | 7, v, w => v = evV ⟨4, 1, 0, 1, 0, 0, 0⟩
  | 8, v, w => SlA [⟨1, 1, 0, 0, 0, 0, 0⟩, ⟨2, 1, 0, 0, 0, 0, 0⟩, ⟨3, 1, 0, 2, 0, 0, 0⟩, ⟨4, 1, 0, 1, 0, 0, 0⟩] (v) w
  | 9, v, w => SlA [⟨1, 1, 0, 0, 0, 0, 0⟩, ⟨2, 1, 0, 0, 0, 0, 0⟩, ⟨3, 1, 0, 2, 0, 0, 0⟩, ⟨4, 1, 0, 1, 0, 0, 0⟩] (v) w
  | 10, v, w => SlA [⟨1, 1, 0, 0, 0, 0, 0⟩, ⟨2, 1, 0, 0, 0, 0, 0⟩, ⟨3, 1, 0, 2, 0, 0, 0⟩, ⟨4, 1, 0, 1, 0, 0, 0⟩] (v) w
  | _ + 11, _, _ => False
theorem sn34_mono (i : Nat) (v : Value) (w w' : World) (b : Below w.heap.size w w') (h : sn34_S i v w) : sn34_S i v w' := by
  match i, h with
  | 0, h => exact h
  | 1, h => exact h
  | 2, h => exact h
  | 3, h => exact h
  | 4, h => exact h
  | 5, h => exact h
  | 6, h => exact h
  | 7, h => exact h
  | 8, h => exact SlA.stays h b
  | 9, h => exact SlA.stays h b
  | 10, h => exact SlA.stays h b
set_option maxRecDepth 100000 in
set_option maxHeartbeats 4000000 in
theorem sn34 {Tb : World → Prop} (HC : CheckC Tb) {id : Nat} {ops : Array Oper} (hops : ops = sn34_ops) (T0 : Array Value) (hsz : T0.size = 726) (W : World) (ht : Tb W) (p6 : PtE ⟨1, 0, 0, 0, 0, 0, 0⟩ (T0[6]?.getD undef) W) (p7 : PtE ⟨2, 0, 0, 0, 0, 0, 0⟩ (T0[7]?.getD undef) W) (p8 : PtE ⟨3, 0, 0, 2, 0, 0, 0⟩ (T0[8]?.getD undef) W) {Q : Exit → Act → World → Prop}
    (hend : ∀ (T : Array Value) (w : World), T.size = 726 → Below W.heap.size W w → (∀ x, x ∉ sn34_ds → T[x]? = T0[x]?) → SlA [⟨1, 1, 0, 0, 0, 0, 0⟩, ⟨2, 1, 0, 0, 0, 0, 0⟩, ⟨3, 1, 0, 2, 0, 0, 0⟩, ⟨4, 1, 0, 1, 0, 0, 0⟩] (T[17]?.getD undef) w → Q .normal ⟨T, []⟩ w) : (Code.region id ops true).wp Tryd.prog Q ⟨T0, []⟩ W := by
  subst hops
  have hos : sn34_ops.size = 11 := by kernel_rfl
  have hga : (List.range 11).all (fun i => match sn34_ops[i]? with | some o => o.guard == ([none, none, none, none, none, none, none, none, none, none, none] : List (Option (Nat × Bool))).getD i none | none => false) = true := by kernel_rfl
  have q6 : ∀ (a : Act) (w : World), (∀ t, t ∉ sn34_ds → a.tmps[t]?.getD undef = T0[t]?.getD undef) → Below W.heap.size W w → PtE ⟨1, 0, 0, 0, 0, 0, 0⟩ (a.tmps[6]?.getD undef) w := fun a w hT hb => by rw [hT 6 (by decide)]; exact PtE.stays p6 hb
  have q7 : ∀ (a : Act) (w : World), (∀ t, t ∉ sn34_ds → a.tmps[t]?.getD undef = T0[t]?.getD undef) → Below W.heap.size W w → PtE ⟨2, 0, 0, 0, 0, 0, 0⟩ (a.tmps[7]?.getD undef) w := fun a w hT hb => by rw [hT 7 (by decide)]; exact PtE.stays p7 hb
  have q8 : ∀ (a : Act) (w : World), (∀ t, t ∉ sn34_ds → a.tmps[t]?.getD undef = T0[t]?.getD undef) → Below W.heap.size W w → PtE ⟨3, 0, 0, 2, 0, 0, 0⟩ (a.tmps[8]?.getD undef) w := fun a w hT hb => by rw [hT 8 (by decide)]; exact PtE.stays p8 hb
  have hlt : ∀ x ∈ sn34_ds, x < T0.size := fun x hx => by
    have hall : (sn34_ds.all fun d => decide (d < 726)) = true := by decide
    have := List.all_eq_true.1 hall x hx
    simp only [decide_eq_true_eq] at this
    omega
  refine wp_region_kinds3 sn34_S sn34_ds W T0 (by decide) hlt (by kernel_rfl) (by kernel_rfl) (fun i o j want ho hgd => ?_) sn34_mono ?_ ?_
  · have hi : i < 11 := by rw [← hos]; exact (Array.getElem?_eq_some_iff.1 ho).1
    have h1 := List.all_eq_true.1 hga i (by simpa using hi)
    rw [ho] at h1
    simp only [hgd, beq_iff_eq] at h1
    match i, hi with
    | 0, _ => cases h1
    | 1, _ => cases h1
    | 2, _ => cases h1
    | 3, _ => cases h1
    | 4, _ => cases h1
    | 5, _ => cases h1
    | 6, _ => cases h1
    | 7, _ => cases h1
    | 8, _ => cases h1
    | 9, _ => cases h1
    | 10, _ => cases h1
    | i + 11, h => exact absurd (show i + 11 < 11 from h) (by omega)
  · intro i o ho hi a w hT hW hb K hK
    match i, hi with
    | 0, _ =>
      exact n_load 6 (opAtW ho (by kernel_rfl)) (q6 a w hT hb) (hK _ _ (Below.refl _ _) rfl)
    | 1, _ =>
      exact o_by 402 (opAtW ho (by kernel_rfl)) (hW 0 (by kernel_rfl)) (by_any 1 ⟨1, 0, 0, 0, 0, 0, 0⟩ w) (fun w' hb' => hK _ w' hb' rfl)
    | 2, _ =>
      exact n_load 7 (opAtW ho (by kernel_rfl)) (q7 a w hT hb) (hK _ _ (Below.refl _ _) rfl)
    | 3, _ =>
      exact o_by 404 (opAtW ho (by kernel_rfl)) (hW 2 (by kernel_rfl)) (by_any 1 ⟨2, 0, 0, 0, 0, 0, 0⟩ w) (fun w' hb' => hK _ w' hb' rfl)
    | 4, _ =>
      exact n_load 8 (opAtW ho (by kernel_rfl)) (q8 a w hT hb) (hK _ _ (Below.refl _ _) rfl)
    | 5, _ =>
      exact o_by 406 (opAtW ho (by kernel_rfl)) (hW 4 (by kernel_rfl)) (by_any 1 ⟨3, 0, 0, 2, 0, 0, 0⟩ w) (fun w' hb' => hK _ w' hb' rfl)
    | 6, _ =>
      exact o_ev (opAtW ho (by kernel_rfl)) (ev_any (4) (1) (0) w) (fun w' hb' => hK _ w' hb' rfl)
    | 7, _ =>
      exact o_by 408 (opAtW ho (by kernel_rfl)) (hW 6 (by kernel_rfl)) (by_any 1 ⟨4, 0, 0, 1, 0, 0, 0⟩ w) (fun w' hb' => hK _ w' hb' rfl)
    | 8, _ =>
      have p403 : a.tmps[403]?.getD undef = evV ⟨1, 1, 0, 0, 0, 0, 0⟩ := (hW 1 (by kernel_rfl))
      have p405 : a.tmps[405]?.getD undef = evV ⟨2, 1, 0, 0, 0, 0, 0⟩ := (hW 3 (by kernel_rfl))
      have p407 : a.tmps[407]?.getD undef = evV ⟨3, 1, 0, 2, 0, 0, 0⟩ := (hW 5 (by kernel_rfl))
      have p409 : a.tmps[409]?.getD undef = evV ⟨4, 1, 0, 1, 0, 0, 0⟩ := (hW 7 (by kernel_rfl))
      exact n_slice [⟨1, 1, 0, 0, 0, 0, 0⟩, ⟨2, 1, 0, 0, 0, 0, 0⟩, ⟨3, 1, 0, 2, 0, 0, 0⟩, ⟨4, 1, 0, 1, 0, 0, 0⟩] #[(0, .tmp 403), (1, .tmp 405), (2, .tmp 407), (3, .tmp 409)] (opAtW ho (by kernel_rfl)) rfl (by kernel_rfl) (by decide) (by decide) (by simp [Act.eval, p403, p405, p407, p409]) (fun v w' hb' hs => hK v w' hb' hs)
    | 9, _ =>
      exact n_many 410 (opAtW ho (by kernel_rfl)) (hW 8 (by kernel_rfl)) (fun u w' hb' hs => hK u w' hb' hs)
    | 10, _ =>
      exact v_assign 411 (opAtW ho (by kernel_rfl)) rfl (hK _ _ (Below.refl _ _) (hW 9 (by kernel_rfl)))
    | i + 11, h => exact absurd (show i + 11 < 11 from h) (by omega)
  · intro us w hu hb hS
    have hat : ∀ j (hj : j < sn34_ds.length), (putAll T0 sn34_ds us)[sn34_ds[j]]?.getD undef = us.getD j undef := fun j hj => by
      rw [putAll_at T0 sn34_ds us j hj hu.symm (by decide) (hlt _ (List.getElem_mem hj)), ← List.getD_eq_getElem?_getD]
    have r17 := hS 10 (by decide)
    rw [← hat 10 (by decide)] at r17
    exact hend _ w (by rw [putAll_size]; exact hsz) hb (fun x hx => putAll_far sn34_ds us T0 x hx) r17
noncomputable def sn35_ops : Array Oper := opsW Tryd.f3 35
def sn35_ds : List Nat := [412, 413, 414, 415, 416, 417, 418, 419, 420, 18]
def sn35_S : Nat → Value → World → Prop
  | 0, v, w => v = evV ⟨1, 0, 0, 0, 0, 0, 0⟩
  | 1, v, w => SlA [⟨1, 0, 0, 0, 0, 0, 0⟩] (v) w
  | 2, v, w => SlA [⟨1, 0, 0, 0, 0, 0, 0⟩] (v) w
  | 3, v, w => v = evV ⟨4, 0, 0, 0, 0, 0, 0⟩
  | 4, v, w => v = evV ⟨5, 0, 0, 0, 1, 0, 0⟩
  | 5, v, w => SlA [⟨4, 0, 0, 0, 0, 0, 0⟩, ⟨5, 0, 0, 0, 1, 0, 0⟩] (v) w
  | 6, v, w => SlA [⟨4, 0, 0, 0, 0, 0, 0⟩, ⟨5, 0, 0, 0, 1, 0, 0⟩] (v) w
  | 7, v, w => LsA [[⟨1, 0, 0, 0, 0, 0, 0⟩], [⟨4, 0, 0, 0, 0, 0, 0⟩, ⟨5, 0, 0, 0, 1, 0, 0⟩]] (v) w
  | 8, v, w => SlA [⟨1, 0, 0, 0, 0, 0, 0⟩, ⟨4, 0, 0, 0, 0, 0, 0⟩, ⟨5, 0, 0, 0, 1, 0, 0⟩] (v) w
  | 9, v, w => SlA [⟨1, 0, 0, 0, 0, 0, 0⟩, ⟨4, 0, 0, 0, 0, 0, 0⟩, ⟨5, 0, 0, 0, 1, 0, 0⟩] (v) w
  | _ + 10, _, _ => False
theorem sn35_mono (i : Nat) (v : Value) (w w' : World) (b : Below w.heap.size w w') (h : sn35_S i v w) : sn35_S i v w' := by
  match i, h with
  | 0, h => exact h
  | 1, h => exact SlA.stays h b
  | 2, h => exact SlA.stays h b
  | 3, h => exact h
  | 4, h => exact h
  | 5, h => exact SlA.stays h b
  | 6, h => exact SlA.stays h b
  | 7, h => exact LsA.stays h b
  | 8, h => exact SlA.stays h b
  | 9, h => exact SlA.stays h b
set_option maxRecDepth 100000 in
set_option maxHeartbeats 4000000 in
theorem sn35 {Tb : World → Prop} (HC : CheckC Tb) {id : Nat} {ops : Array Oper} (hops : ops = sn35_ops) (T0 : Array Value) (hsz : T0.size = 726) (W : World) (ht : Tb W) (p6 : PtE ⟨1, 0, 0, 0, 0, 0, 0⟩ (T0[6]?.getD undef) W) {Q : Exit → Act → World → Prop}
    (hend : ∀ (T : Array Value) (w : World), T.size = 726 → Below W.heap.size W w → (∀ x, x ∉ sn35_ds → T[x]? = T0[x]?) → SlA [⟨1, 0, 0, 0, 0, 0, 0⟩, ⟨4, 0, 0, 0, 0, 0, 0⟩, ⟨5, 0, 0, 0, 1, 0, 0⟩] (T[18]?.getD undef) w → Q .normal ⟨T, []⟩ w) : (Code.region id ops false).wp Tryd.prog Q ⟨T0, []⟩ W := by
  subst hops
  have hos : sn35_ops.size = 10 := by kernel_rfl
  have hga : (List.range 10).all (fun i => match sn35_ops[i]? with | some o => o.guard == ([none, none, none, none, none, none, none, none, none, none] : List (Option (Nat × Bool))).getD i none | none => false) = true := by kernel_rfl
  have q6 : ∀ (a : Act) (w : World), (∀ t, t ∉ sn35_ds → a.tmps[t]?.getD undef = T0[t]?.getD undef) → Below W.heap.size W w → PtE ⟨1, 0, 0, 0, 0, 0, 0⟩ (a.tmps[6]?.getD undef) w := fun a w hT hb => by rw [hT 6 (by decide)]; exact PtE.stays p6 hb
  have hlt : ∀ x ∈ sn35_ds, x < T0.size := fun x hx => by
    have hall : (sn35_ds.all fun d => decide (d < 726)) = true := by decide
    have := List.all_eq_true.1 hall x hx
    simp only [decide_eq_true_eq] at this
    omega
  refine wp_region_kindsS sn35_S sn35_ds W T0 (by decide) hlt (by kernel_rfl) (fun i o j want ho hgd => ?_) sn35_mono ?_ ?_
  · have hi : i < 10 := by rw [← hos]; exact (Array.getElem?_eq_some_iff.1 ho).1
    have h1 := List.all_eq_true.1 hga i (by simpa using hi)
    rw [ho] at h1
    simp only [hgd, beq_iff_eq] at h1
    match i, hi with
    | 0, _ => cases h1
    | 1, _ => cases h1
    | 2, _ => cases h1
    | 3, _ => cases h1
    | 4, _ => cases h1
    | 5, _ => cases h1
    | 6, _ => cases h1
    | 7, _ => cases h1
    | 8, _ => cases h1
    | 9, _ => cases h1
    | i + 10, h => exact absurd (show i + 10 < 10 from h) (by omega)
  · intro i o ho hi a w hT hW hb K hK
    match i, hi with
    | 0, _ =>
      exact n_load 6 (opAtW ho (by kernel_rfl)) (q6 a w hT hb) (hK _ _ (Below.refl _ _) rfl)
    | 1, _ =>
      have p412 : a.tmps[412]?.getD undef = evV ⟨1, 0, 0, 0, 0, 0, 0⟩ := (hW 0 (by decide))
      exact n_slice [⟨1, 0, 0, 0, 0, 0, 0⟩] #[(0, .tmp 412)] (opAtW ho (by kernel_rfl)) rfl (by kernel_rfl) (by decide) (by decide) (by simp [Act.eval, p412]) (fun v w' hb' hs => hK v w' hb' hs)
    | 2, _ =>
      exact n_many 413 (opAtW ho (by kernel_rfl)) (hW 1 (by decide)) (fun u w' hb' hs => hK u w' hb' hs)
    | 3, _ =>
      exact o_ev (opAtW ho (by kernel_rfl)) (ev_any (4) (0) (0) w) (fun w' hb' => hK _ w' hb' rfl)
    | 4, _ =>
      exact o_ev (opAtW ho (by kernel_rfl)) (ev_any (5) (0) (1) w) (fun w' hb' => hK _ w' hb' rfl)
    | 5, _ =>
      have p415 : a.tmps[415]?.getD undef = evV ⟨4, 0, 0, 0, 0, 0, 0⟩ := (hW 3 (by decide))
      have p416 : a.tmps[416]?.getD undef = evV ⟨5, 0, 0, 0, 1, 0, 0⟩ := (hW 4 (by decide))
      exact n_slice [⟨4, 0, 0, 0, 0, 0, 0⟩, ⟨5, 0, 0, 0, 1, 0, 0⟩] #[(0, .tmp 415), (1, .tmp 416)] (opAtW ho (by kernel_rfl)) rfl (by kernel_rfl) (by decide) (by decide) (by simp [Act.eval, p415, p416]) (fun v w' hb' hs => hK v w' hb' hs)
    | 6, _ =>
      exact n_many 417 (opAtW ho (by kernel_rfl)) (hW 5 (by decide)) (fun u w' hb' hs => hK u w' hb' hs)
    | 7, _ =>
      have p414 : SlA [⟨1, 0, 0, 0, 0, 0, 0⟩] (a.tmps[414]?.getD undef) w := (hW 2 (by decide))
      have p418 : SlA [⟨4, 0, 0, 0, 0, 0, 0⟩, ⟨5, 0, 0, 0, 1, 0, 0⟩] (a.tmps[418]?.getD undef) w := (hW 6 (by decide))
      refine n_lists [[⟨1, 0, 0, 0, 0, 0, 0⟩], [⟨4, 0, 0, 0, 0, 0, 0⟩, ⟨5, 0, 0, 0, 1, 0, 0⟩]] [a.tmps[414]?.getD undef, a.tmps[418]?.getD undef] #[(0, .tmp 414), (1, .tmp 418)] (opAtW ho (by kernel_rfl)) rfl rfl (by decide) (by decide) (fun j h => ?_) (by simp [Act.eval]) (fun v w' hb' hs => hK v w' hb' hs)
      match j, h with
      | 0, _ => exact p414
      | 1, _ => exact p418
      | j + 2, h => exact absurd h (by simp)
    | 8, _ =>
      exact n_join 419 [⟨1, 0, 0, 0, 0, 0, 0⟩, ⟨4, 0, 0, 0, 0, 0, 0⟩, ⟨5, 0, 0, 0, 1, 0, 0⟩] (opAtW ho (by kernel_rfl)) (hW 7 (by decide)) (by decide) (by decide) rfl (fun u w' hb' hs => hK u w' hb' hs)
    | 9, _ =>
      exact v_assign 420 (opAtW ho (by kernel_rfl)) rfl (hK _ _ (Below.refl _ _) (hW 8 (by decide)))
    | i + 10, h => exact absurd (show i + 10 < 10 from h) (by omega)
  · intro us w hu hb hS
    have hat : ∀ j (hj : j < sn35_ds.length), (putAll T0 sn35_ds us)[sn35_ds[j]]?.getD undef = us.getD j undef := fun j hj => by
      rw [putAll_at T0 sn35_ds us j hj hu.symm (by decide) (hlt _ (List.getElem_mem hj)), ← List.getD_eq_getElem?_getD]
    have r18 := hS 9 (by decide)
    rw [← hat 9 (by decide)] at r18
    exact hend _ w (by rw [putAll_size]; exact hsz) hb (fun x hx => putAll_far sn35_ds us T0 x hx) r18
noncomputable def sn36_ops : Array Oper := opsW Tryd.f3 36
def sn36_ds : List Nat := [421, 422, 423, 424, 425, 426, 427, 428, 429, 430, 431, 432, 433, 434, 435, 436, 437, 438, 439, 440, 441, 442, 443, 444, 445, 446, 447, 448, 449, 450, 451, 452, 453, 454, 455, 456, 457, 458, 459, 460, 461, 462, 463, 464, 465, 466, 467, 468, 469, 470, 471, 472, 473, 474, 475, 476, 477, 478, 479, 480, 481, 482, 483, 484, 485, 486, 487, 488, 489, 490, 491, 492, 493, 494, 495, 496, 497, 498, 499, 500, 501, 502, 503, 504, 505, 506, 507, 508]
def sn36_S : Nat → Value → World → Prop
  | 0, v, w => v = evV ⟨1, 0, 0, 0, 0, 0, 0⟩
  | 1, v, w => v = evV ⟨5, 0, 0, 0, 1, 0, 0⟩
  | 2, v, w => SlA [⟨1, 0, 0, 0, 0, 0, 0⟩, ⟨5, 0, 0, 0, 1, 0, 0⟩] (v) w
  | 3, v, w => v = .bool true
  | 4, v, w => v = .bool false
  | 5, v, w => v = .bool false
  | 6, v, w => v = evV ⟨1, 0, 0, 0, 0, 0, 0⟩
  | 7, v, w => v = evV ⟨4, 0, 0, 0, 0, 0, 0⟩
  | 8, v, w => v = evV ⟨7, 0, 0, 0, 0, 0, 0⟩
  | 9, v, w => SlA [⟨1, 0, 0, 0, 0, 0, 0⟩, ⟨4, 0, 0, 0, 0, 0, 0⟩, ⟨7, 0, 0, 0, 0, 0, 0⟩] (v) w
  | 10, v, w => v = .bool true
  | 11, v, w => v = .bool false
  | 12, v, w => v = .bool false
  | 13, v, w => v = .bool false
  | 14, v, w => v = evV ⟨1, 0, 0, 0, 0, 0, 0⟩
  | 15, v, w => v = evV ⟨4, 0, 0, 0, 0, 0, 0⟩
  | 16, v, w => v = evV ⟨5, 0, 0, 0, 1, 0, 0⟩
  | 17, v, w => v = evV ⟨7, 0, 0, 0, 2, 0, 0⟩
  | 18, v, w => SlA [⟨1, 0, 0, 0, 0, 0, 0⟩, ⟨4, 0, 0, 0, 0, 0, 0⟩, ⟨5, 0, 0, 0, 1, 0, 0⟩, ⟨7, 0, 0, 0, 2, 0, 0⟩] (v) w
  | 19, v, w => v = .bool true
  | 20, v, w => v = .bool false
  | 21, v, w => v = .bool false
  | 22, v, w => v = .bool false
  | 23, v, w => v = evV ⟨1, 0, 0, 0, 0, 0, 0⟩
  | 24, v, w => v = evV ⟨4, 0, 0, 0, 0, 0, 0⟩
  | 25, v, w => v = evV ⟨5, 0, 0, 0, 1, 0, 0⟩
  | 26, v, w => v = evV ⟨6, 0, 0, 0, 0, 0, 0⟩
  | 27, v, w => SlA [⟨1, 0, 0, 0, 0, 0, 0⟩, ⟨4, 0, 0, 0, 0, 0, 0⟩, ⟨5, 0, 0, 0, 1, 0, 0⟩, ⟨6, 0, 0, 0, 0, 0, 0⟩] (v) w
  | 28, v, w => v = .bool true
  | 29, v, w => v = .bool false
  | 30, v, w => v = .bool false
  | 31, v, w => v = .bool false
  | 32, v, w => SlA [⟨1, 1, 0, 0, 0, 0, 0⟩, ⟨2, 1, 0, 0, 0, 0, 0⟩, ⟨3, 1, 0, 2, 0, 0, 0⟩, ⟨4, 1, 0, 1, 0, 0, 0⟩] (v) w
  | 33, v, w => SlA [⟨1, 0, 0, 0, 0, 0, 0⟩, ⟨4, 0, 0, 0, 0, 0, 0⟩, ⟨5, 0, 0, 0, 1, 0, 0⟩] (v) w
  | 34, v, w => v = evV ⟨5, 0, 0, 0, 1, 0, 0⟩
  | 35, v, w => v = evV ⟨5, 1, 0, 0, 1, 0, 0⟩
  | 36, v, w => SlA [⟨5, 1, 0, 0, 1, 0, 0⟩] (v) w
  | 37, v, w => SlA [⟨5, 1, 0, 0, 1, 0, 0⟩] (v) w
  | 38, v, w => LsA [[⟨1, 1, 0, 0, 0, 0, 0⟩, ⟨2, 1, 0, 0, 0, 0, 0⟩, ⟨3, 1, 0, 2, 0, 0, 0⟩, ⟨4, 1, 0, 1, 0, 0, 0⟩], [⟨1, 0, 0, 0, 0, 0, 0⟩, ⟨4, 0, 0, 0, 0, 0, 0⟩, ⟨5, 0, 0, 0, 1, 0, 0⟩], [⟨5, 1, 0, 0, 1, 0, 0⟩]] (v) w
  | 39, v, w => SlA [⟨1, 1, 0, 0, 0, 0, 0⟩, ⟨2, 1, 0, 0, 0, 0, 0⟩, ⟨3, 1, 0, 2, 0, 0, 0⟩, ⟨4, 1, 0, 1, 0, 0, 0⟩, ⟨1, 0, 0, 0, 0, 0, 0⟩, ⟨4, 0, 0, 0, 0, 0, 0⟩, ⟨5, 0, 0, 0, 1, 0, 0⟩, ⟨5, 1, 0, 0, 1, 0, 0⟩] (v) w
  | 40, v, w => v = .bool true
  | 41, v, w => v = .bool false
  | 42, v, w => v = .bool false
  | 43, v, w => v = .bool false
  | 44, v, w => SlA [⟨1, 1, 0, 0, 0, 0, 0⟩, ⟨2, 1, 0, 0, 0, 0, 0⟩, ⟨3, 1, 0, 2, 0, 0, 0⟩, ⟨4, 1, 0, 1, 0, 0, 0⟩] (v) w
  | 45, v, w => SlA [⟨1, 0, 0, 0, 0, 0, 0⟩, ⟨4, 0, 0, 0, 0, 0, 0⟩, ⟨5, 0, 0, 0, 1, 0, 0⟩] (v) w
  | 46, v, w => v = evV ⟨5, 0, 0, 0, 2, 0, 0⟩
  | 47, v, w => v = evV ⟨5, 1, 0, 0, 2, 0, 0⟩
  | 48, v, w => v = evV ⟨7, 0, 0, 0, 2, 0, 0⟩
  | 49, v, w => v = evV ⟨7, 1, 0, 0, 2, 0, 0⟩
  | 50, v, w => SlA [⟨5, 1, 0, 0, 2, 0, 0⟩, ⟨7, 1, 0, 0, 2, 0, 0⟩] (v) w
  | 51, v, w => SlA [⟨5, 1, 0, 0, 2, 0, 0⟩, ⟨7, 1, 0, 0, 2, 0, 0⟩] (v) w
  | 52, v, w => LsA [[⟨1, 1, 0, 0, 0, 0, 0⟩, ⟨2, 1, 0, 0, 0, 0, 0⟩, ⟨3, 1, 0, 2, 0, 0, 0⟩, ⟨4, 1, 0, 1, 0, 0, 0⟩], [⟨1, 0, 0, 0, 0, 0, 0⟩, ⟨4, 0, 0, 0, 0, 0, 0⟩, ⟨5, 0, 0, 0, 1, 0, 0⟩], [⟨5, 1, 0, 0, 2, 0, 0⟩, ⟨7, 1, 0, 0, 2, 0, 0⟩]] (v) w
  | 53, v, w => SlA [⟨1, 1, 0, 0, 0, 0, 0⟩, ⟨2, 1, 0, 0, 0, 0, 0⟩, ⟨3, 1, 0, 2, 0, 0, 0⟩, ⟨4, 1, 0, 1, 0, 0, 0⟩, ⟨1, 0, 0, 0, 0, 0, 0⟩, ⟨4, 0, 0, 0, 0, 0, 0⟩, ⟨5, 0, 0, 0, 1, 0, 0⟩, ⟨5, 1, 0, 0, 2, 0, 0⟩, ⟨7, 1, 0, 0, 2, 0, 0⟩] (v) w
  | 54, v, w => v = .bool true
  | 55, v, w => v = .bool false
  | 56, v, w => v = .bool false
  | 57, v, w => v = .bool false
  | 58, v, w => SlA [⟨1, 1, 0, 0, 0, 0, 0⟩, ⟨2, 1, 0, 0, 0, 0, 0⟩, ⟨3, 1, 0, 2, 0, 0, 0⟩, ⟨4, 1, 0, 1, 0, 0, 0⟩] (v) w
  | 59, v, w => SlA [⟨1, 0, 0, 0, 0, 0, 0⟩, ⟨4, 0, 0, 0, 0, 0, 0⟩, ⟨5, 0, 0, 0, 1, 0, 0⟩] (v) w
  | 60, v, w => v = evV ⟨5, 0, 0, 0, 2, 0, 0⟩
  | 61, v, w => v = evV ⟨5, 1, 0, 0, 2, 0, 0⟩
  | 62, v, w => v = evV ⟨6, 0, 0, 0, 0, 0, 0⟩
  | 63, v, w => v = evV ⟨6, 1, 0, 0, 0, 0, 0⟩
  | 64, v, w => SlA [⟨5, 1, 0, 0, 2, 0, 0⟩, ⟨6, 1, 0, 0, 0, 0, 0⟩] (v) w
  | 65, v, w => SlA [⟨5, 1, 0, 0, 2, 0, 0⟩, ⟨6, 1, 0, 0, 0, 0, 0⟩] (v) w
  | 66, v, w => LsA [[⟨1, 1, 0, 0, 0, 0, 0⟩, ⟨2, 1, 0, 0, 0, 0, 0⟩, ⟨3, 1, 0, 2, 0, 0, 0⟩, ⟨4, 1, 0, 1, 0, 0, 0⟩], [⟨1, 0, 0, 0, 0, 0, 0⟩, ⟨4, 0, 0, 0, 0, 0, 0⟩, ⟨5, 0, 0, 0, 1, 0, 0⟩], [⟨5, 1, 0, 0, 2, 0, 0⟩, ⟨6, 1, 0, 0, 0, 0, 0⟩]] (v) w
  | 67, v, w => SlA [⟨1, 1, 0, 0, 0, 0, 0⟩, ⟨2, 1, 0, 0, 0, 0, 0⟩, ⟨3, 1, 0, 2, 0, 0, 0⟩, ⟨4, 1, 0, 1, 0, 0, 0⟩, ⟨1, 0, 0, 0, 0, 0, 0⟩, ⟨4, 0, 0, 0, 0, 0, 0⟩, ⟨5, 0, 0, 0, 1, 0, 0⟩, ⟨5, 1, 0, 0, 2, 0, 0⟩, ⟨6, 1, 0, 0, 0, 0, 0⟩] (v) w
  | 68, v, w => v = .bool true
  | 69, v, w => v = .bool false
  | 70, v, w => v = .bool false
  | 71, v, w => v = .bool false
  | 72, v, w => SlA [⟨1, 1, 0, 0, 0, 0, 0⟩, ⟨2, 1, 0, 0, 0, 0, 0⟩, ⟨3, 1, 0, 2, 0, 0, 0⟩, ⟨4, 1, 0, 1, 0, 0, 0⟩] (v) w
  | 73, v, w => SlA [⟨1, 0, 0, 0, 0, 0, 0⟩, ⟨4, 0, 0, 0, 0, 0, 0⟩, ⟨5, 0, 0, 0, 1, 0, 0⟩] (v) w
  | 74, v, w => v = evV ⟨5, 0, 0, 0, 2, 0, 0⟩
  | 75, v, w => v = evV ⟨5, 1, 0, 0, 2, 0, 0⟩
  | 76, v, w => v = evV ⟨10, 0, 0, 0, 0, 0, 5⟩
  | 77, v, w => v = evV ⟨10, 1, 0, 0, 0, 0, 5⟩
  | 78, v, w => v = evV ⟨11, 0, 0, 1, 0, 0, 0⟩
  | 79, v, w => v = evV ⟨11, 1, 0, 1, 0, 0, 0⟩
  | 80, v, w => SlA [⟨5, 1, 0, 0, 2, 0, 0⟩, ⟨10, 1, 0, 0, 0, 0, 5⟩, ⟨11, 1, 0, 1, 0, 0, 0⟩] (v) w
  | 81, v, w => SlA [⟨5, 1, 0, 0, 2, 0, 0⟩, ⟨10, 1, 0, 0, 0, 0, 5⟩, ⟨11, 1, 0, 1, 0, 0, 0⟩] (v) w
  | 82, v, w => LsA [[⟨1, 1, 0, 0, 0, 0, 0⟩, ⟨2, 1, 0, 0, 0, 0, 0⟩, ⟨3, 1, 0, 2, 0, 0, 0⟩, ⟨4, 1, 0, 1, 0, 0, 0⟩], [⟨1, 0, 0, 0, 0, 0, 0⟩, ⟨4, 0, 0, 0, 0, 0, 0⟩, ⟨5, 0, 0, 0, 1, 0, 0⟩], [⟨5, 1, 0, 0, 2, 0, 0⟩, ⟨10, 1, 0, 0, 0, 0, 5⟩, ⟨11, 1, 0, 1, 0, 0, 0⟩]] (v) w
  | 83, v, w => SlA [⟨1, 1, 0, 0, 0, 0, 0⟩, ⟨2, 1, 0, 0, 0, 0, 0⟩, ⟨3, 1, 0, 2, 0, 0, 0⟩, ⟨4, 1, 0, 1, 0, 0, 0⟩, ⟨1, 0, 0, 0, 0, 0, 0⟩, ⟨4, 0, 0, 0, 0, 0, 0⟩, ⟨5, 0, 0, 0, 1, 0, 0⟩, ⟨5, 1, 0, 0, 2, 0, 0⟩, ⟨10, 1, 0, 0, 0, 0, 5⟩, ⟨11, 1, 0, 1, 0, 0, 0⟩] (v) w
  | 84, v, w => TrA 3 4 2 [⟨1, 1, 0, 0, 0, 0, 0⟩, ⟨2, 1, 0, 0, 0, 0, 0⟩, ⟨3, 1, 0, 2, 0, 0, 0⟩, ⟨4, 1, 0, 1, 0, 0, 0⟩, ⟨1, 0, 0, 0, 0, 0, 0⟩, ⟨4, 0, 0, 0, 0, 0, 0⟩, ⟨5, 0, 0, 0, 1, 0, 0⟩, ⟨5, 1, 0, 0, 2, 0, 0⟩, ⟨10, 1, 0, 0, 0, 0, 5⟩, ⟨11, 1, 0, 1, 0, 0, 0⟩] (v) w
  | 85, v, w => v = .bool true
  | 86, v, w => v = .bool false
  | 87, v, w => v = .bool false
  | _ + 88, _, _ => False
theorem sn36_mono (i : Nat) (v : Value) (w w' : World) (b : Below w.heap.size w w') (h : sn36_S i v w) : sn36_S i v w' := by
  match i, h with
  | 0, h => exact h
  | 1, h => exact h
  | 2, h => exact SlA.stays h b
  | 3, h => exact h
  | 4, h => exact h
  | 5, h => exact h
  | 6, h => exact h
  | 7, h => exact h
  | 8, h => exact h
  | 9, h => exact SlA.stays h b
  | 10, h => exact h
  | 11, h => exact h
  | 12, h => exact h
  | 13, h => exact h
  | 14, h => exact h
  | 15, h => exact h
  | 16, h => exact h
  | 17, h => exact h
  | 18, h => exact SlA.stays h b
  | 19, h => exact h
  | 20, h => exact h
  | 21, h => exact h
  | 22, h => exact h
  | 23, h => exact h
  | 24, h => exact h
  | 25, h => exact h
  | 26, h => exact h
  | 27, h => exact SlA.stays h b
  | 28, h => exact h
  | 29, h => exact h
  | 30, h => exact h
  | 31, h => exact h
  | 32, h => exact SlA.stays h b
  | 33, h => exact SlA.stays h b
  | 34, h => exact h
  | 35, h => exact h
  | 36, h => exact SlA.stays h b
  | 37, h => exact SlA.stays h b
  | 38, h => exact LsA.stays h b
  | 39, h => exact SlA.stays h b
  | 40, h => exact h
  | 41, h => exact h
  | 42, h => exact h
  | 43, h => exact h
  | 44, h => exact SlA.stays h b
  | 45, h => exact SlA.stays h b
  | 46, h => exact h
  | 47, h => exact h
  | 48, h => exact h
  | 49, h => exact h
  | 50, h => exact SlA.stays h b
  | 51, h => exact SlA.stays h b
  | 52, h => exact LsA.stays h b
  | 53, h => exact SlA.stays h b
  | 54, h => exact h
  | 55, h => exact h
  | 56, h => exact h
  | 57, h => exact h
  | 58, h => exact SlA.stays h b
  | 59, h => exact SlA.stays h b
  | 60, h => exact h
  | 61, h => exact h
  | 62, h => exact h
  | 63, h => exact h
  | 64, h => exact SlA.stays h b
  | 65, h => exact SlA.stays h b
  | 66, h => exact LsA.stays h b
  | 67, h => exact SlA.stays h b
  | 68, h => exact h
  | 69, h => exact h
  | 70, h => exact h
  | 71, h => exact h
  | 72, h => exact SlA.stays h b
  | 73, h => exact SlA.stays h b
  | 74, h => exact h
  | 75, h => exact h
  | 76, h => exact h
  | 77, h => exact h
  | 78, h => exact h
  | 79, h => exact h
  | 80, h => exact SlA.stays h b
  | 81, h => exact SlA.stays h b
  | 82, h => exact LsA.stays h b
  | 83, h => exact SlA.stays h b
  | 84, h => exact TrA.stays h b
  | 85, h => exact h
  | 86, h => exact h
  | 87, h => exact h
set_option maxRecDepth 100000 in
set_option maxHeartbeats 4000000 in
theorem sn36 {Tb : World → Prop} (HC : CheckC Tb) {id : Nat} {ops : Array Oper} (hops : ops = sn36_ops) (T0 : Array Value) (hsz : T0.size = 726) (W : World) (ht : Tb W) (p6 : PtE ⟨1, 0, 0, 0, 0, 0, 0⟩ (T0[6]?.getD undef) W) (p9 : PtE ⟨4, 0, 0, 0, 0, 0, 0⟩ (T0[9]?.getD undef) W) (p17 : SlA [⟨1, 1, 0, 0, 0, 0, 0⟩, ⟨2, 1, 0, 0, 0, 0, 0⟩, ⟨3, 1, 0, 2, 0, 0, 0⟩, ⟨4, 1, 0, 1, 0, 0, 0⟩] (T0[17]?.getD undef) W) (p18 : SlA [⟨1, 0, 0, 0, 0, 0, 0⟩, ⟨4, 0, 0, 0, 0, 0, 0⟩, ⟨5, 0, 0, 0, 1, 0, 0⟩] (T0[18]?.getD undef) W) {Q : Exit → Act → World → Prop}
    (hend : ∀ (T : Array Value) (w : World), T.size = 726 → Below W.heap.size W w → (∀ x, x ∉ sn36_ds → T[x]? = T0[x]?) → T[508]?.getD undef = .bool false → Q .normal ⟨T, []⟩ w) : (Code.region id ops true).wp Tryd.prog Q ⟨T0, []⟩ W := by
  subst hops
  have hos : sn36_ops.size = 88 := by kernel_rfl
  have hga : (List.range 88).all (fun i => match sn36_ops[i]? with | some o => o.guard == ([none, none, none, none, none, none, some (5, false), some (5, false), some (5, false), some (5, false), some (5, false), some (5, false), none, none, some (13, false), some (13, false), some (13, false), some (13, false), some (13, false), some (13, false), some (13, false), none, none, some (22, false), some (22, false), some (22, false), some (22, false), some (22, false), some (22, false), some (22, false), none, none, some (31, false), some (31, false), some (31, false), some (31, false), some (31, false), some (31, false), some (31, false), some (31, false), some (31, false), some (31, false), none, none, some (43, false), some (43, false), some (43, false), some (43, false), some (43, false), some (43, false), some (43, false), some (43, false), some (43, false), some (43, false), some (43, false), some (43, false), none, none, some (57, false), some (57, false), some (57, false), some (57, false), some (57, false), some (57, false), some (57, false), some (57, false), some (57, false), some (57, false), some (57, false), some (57, false), none, none, some (71, false), some (71, false), some (71, false), some (71, false), some (71, false), some (71, false), some (71, false), some (71, false), some (71, false), some (71, false), some (71, false), some (71, false), some (71, false), some (71, false), some (71, false), none] : List (Option (Nat × Bool))).getD i none | none => false) = true := by kernel_rfl
  have q6 : ∀ (a : Act) (w : World), (∀ t, t ∉ sn36_ds → a.tmps[t]?.getD undef = T0[t]?.getD undef) → Below W.heap.size W w → PtE ⟨1, 0, 0, 0, 0, 0, 0⟩ (a.tmps[6]?.getD undef) w := fun a w hT hb => by rw [hT 6 (by decide)]; exact PtE.stays p6 hb
  have q9 : ∀ (a : Act) (w : World), (∀ t, t ∉ sn36_ds → a.tmps[t]?.getD undef = T0[t]?.getD undef) → Below W.heap.size W w → PtE ⟨4, 0, 0, 0, 0, 0, 0⟩ (a.tmps[9]?.getD undef) w := fun a w hT hb => by rw [hT 9 (by decide)]; exact PtE.stays p9 hb
  have q17 : ∀ (a : Act) (w : World), (∀ t, t ∉ sn36_ds → a.tmps[t]?.getD undef = T0[t]?.getD undef) → Below W.heap.size W w → SlA [⟨1, 1, 0, 0, 0, 0, 0⟩, ⟨2, 1, 0, 0, 0, 0, 0⟩, ⟨3, 1, 0, 2, 0, 0, 0⟩, ⟨4, 1, 0, 1, 0, 0, 0⟩] (a.tmps[17]?.getD undef) w := fun a w hT hb => by rw [hT 17 (by decide)]; exact SlA.stays p17 hb
  have q18 : ∀ (a : Act) (w : World), (∀ t, t ∉ sn36_ds → a.tmps[t]?.getD undef = T0[t]?.getD undef) → Below W.heap.size W w → SlA [⟨1, 0, 0, 0, 0, 0, 0⟩, ⟨4, 0, 0, 0, 0, 0, 0⟩, ⟨5, 0, 0, 0, 1, 0, 0⟩] (a.tmps[18]?.getD undef) w := fun a w hT hb => by rw [hT 18 (by decide)]; exact SlA.stays p18 hb
  have hlt : ∀ x ∈ sn36_ds, x < T0.size := fun x hx => by
    have hall : (sn36_ds.all fun d => decide (d < 726)) = true := by decide
    have := List.all_eq_true.1 hall x hx
    simp only [decide_eq_true_eq] at this
    omega
  refine wp_region_kinds3 sn36_S sn36_ds W T0 (by decide) hlt (by kernel_rfl) (by kernel_rfl) (fun i o j want ho hgd => ?_) sn36_mono ?_ ?_
  · have hi : i < 88 := by rw [← hos]; exact (Array.getElem?_eq_some_iff.1 ho).1
    have h1 := List.all_eq_true.1 hga i (by simpa using hi)
    rw [ho] at h1
    simp only [hgd, beq_iff_eq] at h1
    match i, hi with
    | 0, _ => cases h1
    | 1, _ => cases h1
    | 2, _ => cases h1
    | 3, _ => cases h1
    | 4, _ => cases h1
    | 5, _ => cases h1
    | 6, _ => obtain ⟨rfl, rfl⟩ := Prod.mk.inj (Option.some.inj h1); exact fun v w h => h
    | 7, _ => obtain ⟨rfl, rfl⟩ := Prod.mk.inj (Option.some.inj h1); exact fun v w h => h
    | 8, _ => obtain ⟨rfl, rfl⟩ := Prod.mk.inj (Option.some.inj h1); exact fun v w h => h
    | 9, _ => obtain ⟨rfl, rfl⟩ := Prod.mk.inj (Option.some.inj h1); exact fun v w h => h
    | 10, _ => obtain ⟨rfl, rfl⟩ := Prod.mk.inj (Option.some.inj h1); exact fun v w h => h
    | 11, _ => obtain ⟨rfl, rfl⟩ := Prod.mk.inj (Option.some.inj h1); exact fun v w h => h
    | 12, _ => cases h1
    | 13, _ => cases h1
    | 14, _ => obtain ⟨rfl, rfl⟩ := Prod.mk.inj (Option.some.inj h1); exact fun v w h => h
    | 15, _ => obtain ⟨rfl, rfl⟩ := Prod.mk.inj (Option.some.inj h1); exact fun v w h => h
    | 16, _ => obtain ⟨rfl, rfl⟩ := Prod.mk.inj (Option.some.inj h1); exact fun v w h => h
    | 17, _ => obtain ⟨rfl, rfl⟩ := Prod.mk.inj (Option.some.inj h1); exact fun v w h => h
    | 18, _ => obtain ⟨rfl, rfl⟩ := Prod.mk.inj (Option.some.inj h1); exact fun v w h => h
    | 19, _ => obtain ⟨rfl, rfl⟩ := Prod.mk.inj (Option.some.inj h1); exact fun v w h => h
    | 20, _ => obtain ⟨rfl, rfl⟩ := Prod.mk.inj (Option.some.inj h1); exact fun v w h => h
    | 21, _ => cases h1
    | 22, _ => cases h1
    | 23, _ => obtain ⟨rfl, rfl⟩ := Prod.mk.inj (Option.some.inj h1); exact fun v w h => h
    | 24, _ => obtain ⟨rfl, rfl⟩ := Prod.mk.inj (Option.some.inj h1); exact fun v w h => h
    | 25, _ => obtain ⟨rfl, rfl⟩ := Prod.mk.inj (Option.some.inj h1); exact fun v w h => h
    | 26, _ => obtain ⟨rfl, rfl⟩ := Prod.mk.inj (Option.some.inj h1); exact fun v w h => h
    | 27, _ => obtain ⟨rfl, rfl⟩ := Prod.mk.inj (Option.some.inj h1); exact fun v w h => h
    | 28, _ => obtain ⟨rfl, rfl⟩ := Prod.mk.inj (Option.some.inj h1); exact fun v w h => h
    | 29, _ => obtain ⟨rfl, rfl⟩ := Prod.mk.inj (Option.some.inj h1); exact fun v w h => h
    | 30, _ => cases h1
    | 31, _ => cases h1
    | 32, _ => obtain ⟨rfl, rfl⟩ := Prod.mk.inj (Option.some.inj h1); exact fun v w h => h
    | 33, _ => obtain ⟨rfl, rfl⟩ := Prod.mk.inj (Option.some.inj h1); exact fun v w h => h
    | 34, _ => obtain ⟨rfl, rfl⟩ := Prod.mk.inj (Option.some.inj h1); exact fun v w h => h
    | 35, _ => obtain ⟨rfl, rfl⟩ := Prod.mk.inj (Option.some.inj h1); exact fun v w h => h
    | 36, _ => obtain ⟨rfl, rfl⟩ := Prod.mk.inj (Option.some.inj h1); exact fun v w h => h
    | 37, _ => obtain ⟨rfl, rfl⟩ := Prod.mk.inj (Option.some.inj h1); exact fun v w h => h
    | 38, _ => obtain ⟨rfl, rfl⟩ := Prod.mk.inj (Option.some.inj h1); exact fun v w h => h
    | 39, _ => obtain ⟨rfl, rfl⟩ := Prod.mk.inj (Option.some.inj h1); exact fun v w h => h
    | 40, _ => obtain ⟨rfl, rfl⟩ := Prod.mk.inj (Option.some.inj h1); exact fun v w h => h
    | 41, _ => obtain ⟨rfl, rfl⟩ := Prod.mk.inj (Option.some.inj h1); exact fun v w h => h
    | 42, _ => cases h1
    | 43, _ => cases h1
    | 44, _ => obtain ⟨rfl, rfl⟩ := Prod.mk.inj (Option.some.inj h1); exact fun v w h => h
    | 45, _ => obtain ⟨rfl, rfl⟩ := Prod.mk.inj (Option.some.inj h1); exact fun v w h => h
    | 46, _ => obtain ⟨rfl, rfl⟩ := Prod.mk.inj (Option.some.inj h1); exact fun v w h => h
    | 47, _ => obtain ⟨rfl, rfl⟩ := Prod.mk.inj (Option.some.inj h1); exact fun v w h => h
    | 48, _ => obtain ⟨rfl, rfl⟩ := Prod.mk.inj (Option.some.inj h1); exact fun v w h => h
    | 49, _ => obtain ⟨rfl, rfl⟩ := Prod.mk.inj (Option.some.inj h1); exact fun v w h => h
    | 50, _ => obtain ⟨rfl, rfl⟩ := Prod.mk.inj (Option.some.inj h1); exact fun v w h => h
    | 51, _ => obtain ⟨rfl, rfl⟩ := Prod.mk.inj (Option.some.inj h1); exact fun v w h => h
    | 52, _ => obtain ⟨rfl, rfl⟩ := Prod.mk.inj (Option.some.inj h1); exact fun v w h => h
    | 53, _ => obtain ⟨rfl, rfl⟩ := Prod.mk.inj (Option.some.inj h1); exact fun v w h => h
    | 54, _ => obtain ⟨rfl, rfl⟩ := Prod.mk.inj (Option.some.inj h1); exact fun v w h => h
    | 55, _ => obtain ⟨rfl, rfl⟩ := Prod.mk.inj (Option.some.inj h1); exact fun v w h => h
    | 56, _ => cases h1
    | 57, _ => cases h1
    | 58, _ => obtain ⟨rfl, rfl⟩ := Prod.mk.inj (Option.some.inj h1); exact fun v w h => h
    | 59, _ => obtain ⟨rfl, rfl⟩ := Prod.mk.inj (Option.some.inj h1); exact fun v w h => h
    | 60, _ => obtain ⟨rfl, rfl⟩ := Prod.mk.inj (Option.some.inj h1); exact fun v w h => h
    | 61, _ => obtain ⟨rfl, rfl⟩ := Prod.mk.inj (Option.some.inj h1); exact fun v w h => h
    | 62, _ => obtain ⟨rfl, rfl⟩ := Prod.mk.inj (Option.some.inj h1); exact fun v w h => h
    | 63, _ => obtain ⟨rfl, rfl⟩ := Prod.mk.inj (Option.some.inj h1); exact fun v w h => h
    | 64, _ => obtain ⟨rfl, rfl⟩ := Prod.mk.inj (Option.some.inj h1); exact fun v w h => h
    | 65, _ => obtain ⟨rfl, rfl⟩ := Prod.mk.inj (Option.some.inj h1); exact fun v w h => h
    | 66, _ => obtain ⟨rfl, rfl⟩ := Prod.mk.inj (Option.some.inj h1); exact fun v w h => h
    | 67, _ => obtain ⟨rfl, rfl⟩ := Prod.mk.inj (Option.some.inj h1); exact fun v w h => h
    | 68, _ => obtain ⟨rfl, rfl⟩ := Prod.mk.inj (Option.some.inj h1); exact fun v w h => h
    | 69, _ => obtain ⟨rfl, rfl⟩ := Prod.mk.inj (Option.some.inj h1); exact fun v w h => h
    | 70, _ => cases h1
    | 71, _ => cases h1
    | 72, _ => obtain ⟨rfl, rfl⟩ := Prod.mk.inj (Option.some.inj h1); exact fun v w h => h
    | 73, _ => obtain ⟨rfl, rfl⟩ := Prod.mk.inj (Option.some.inj h1); exact fun v w h => h
    | 74, _ => obtain ⟨rfl, rfl⟩ := Prod.mk.inj (Option.some.inj h1); exact fun v w h => h
    | 75, _ => obtain ⟨rfl, rfl⟩ := Prod.mk.inj (Option.some.inj h1); exact fun v w h => h
    | 76, _ => obtain ⟨rfl, rfl⟩ := Prod.mk.inj (Option.some.inj h1); exact fun v w h => h
    | 77, _ => obtain ⟨rfl, rfl⟩ := Prod.mk.inj (Option.some.inj h1); exact fun v w h => h
    | 78, _ => obtain ⟨rfl, rfl⟩ := Prod.mk.inj (Option.some.inj h1); exact fun v w h => h
    | 79, _ => obtain ⟨rfl, rfl⟩ := Prod.mk.inj (Option.some.inj h1); exact fun v w h => h
    | 80, _ => obtain ⟨rfl, rfl⟩ := Prod.mk.inj (Option.some.inj h1); exact fun v w h => h
    | 81, _ => obtain ⟨rfl, rfl⟩ := Prod.mk.inj (Option.some.inj h1); exact fun v w h => h
    | 82, _ => obtain ⟨rfl, rfl⟩ := Prod.mk.inj (Option.some.inj h1); exact fun v w h => h
    | 83, _ => obtain ⟨rfl, rfl⟩ := Prod.mk.inj (Option.some.inj h1); exact fun v w h => h
    | 84, _ => obtain ⟨rfl, rfl⟩ := Prod.mk.inj (Option.some.inj h1); exact fun v w h => h
    | 85, _ => obtain ⟨rfl, rfl⟩ := Prod.mk.inj (Option.some.inj h1); exact fun v w h => h
    | 86, _ => obtain ⟨rfl, rfl⟩ := Prod.mk.inj (Option.some.inj h1); exact fun v w h => h
    | 87, _ => cases h1
    | i + 88, h => exact absurd (show i + 88 < 88 from h) (by omega)
  · intro i o ho hi a w hT hW hb K hK
    match i, hi with
    | 0, _ =>
      exact n_load 6 (opAtW ho (by kernel_rfl)) (q6 a w hT hb) (hK _ _ (Below.refl _ _) rfl)
    | 1, _ =>
      exact o_ev (opAtW ho (by kernel_rfl)) (ev_any (5) (0) (1) w) (fun w' hb' => hK _ w' hb' rfl)
    | 2, _ =>
      have p421 : a.tmps[421]?.getD undef = evV ⟨1, 0, 0, 0, 0, 0, 0⟩ := (hW 0 (by kernel_rfl))
      have p422 : a.tmps[422]?.getD undef = evV ⟨5, 0, 0, 0, 1, 0, 0⟩ := (hW 1 (by kernel_rfl))
      exact n_slice [⟨1, 0, 0, 0, 0, 0, 0⟩, ⟨5, 0, 0, 0, 1, 0, 0⟩] #[(0, .tmp 421), (1, .tmp 422)] (opAtW ho (by kernel_rfl)) rfl (by kernel_rfl) (by decide) (by decide) (by simp [Act.eval, p421, p422]) (fun v w' hb' hs => hK v w' hb' hs)
    | 3, _ =>
      exact n_bad HC (HC.below W w ht hb) 423 true (opAtW ho (by kernel_rfl)) (hW 2 (by kernel_rfl)) (by decide) (by decide) (by kernel_rfl) (fun w' hb' => hK _ w' hb' rfl)
    | 4, _ =>
      exact u_notT 424 (opAtW ho (by kernel_rfl)) (hW 3 (by kernel_rfl)) (hK _ _ (Below.refl _ _) rfl)
    | 5, _ =>
      exact v_move 425 (opAtW ho (by kernel_rfl)) (hW 4 (by kernel_rfl)) (hK _ _ (Below.refl _ _) rfl)
    | 6, _ =>
      exact n_load 6 (opAtW ho (by kernel_rfl)) (q6 a w hT hb) (hK _ _ (Below.refl _ _) rfl)
    | 7, _ =>
      exact n_load 9 (opAtW ho (by kernel_rfl)) (q9 a w hT hb) (hK _ _ (Below.refl _ _) rfl)
    | 8, _ =>
      exact o_ev (opAtW ho (by kernel_rfl)) (ev_any (7) (0) (0) w) (fun w' hb' => hK _ w' hb' rfl)
    | 9, _ =>
      have p427 : a.tmps[427]?.getD undef = evV ⟨1, 0, 0, 0, 0, 0, 0⟩ := (hW 6 (by kernel_rfl))
      have p428 : a.tmps[428]?.getD undef = evV ⟨4, 0, 0, 0, 0, 0, 0⟩ := (hW 7 (by kernel_rfl))
      have p429 : a.tmps[429]?.getD undef = evV ⟨7, 0, 0, 0, 0, 0, 0⟩ := (hW 8 (by kernel_rfl))
      exact n_slice [⟨1, 0, 0, 0, 0, 0, 0⟩, ⟨4, 0, 0, 0, 0, 0, 0⟩, ⟨7, 0, 0, 0, 0, 0, 0⟩] #[(0, .tmp 427), (1, .tmp 428), (2, .tmp 429)] (opAtW ho (by kernel_rfl)) rfl (by kernel_rfl) (by decide) (by decide) (by simp [Act.eval, p427, p428, p429]) (fun v w' hb' hs => hK v w' hb' hs)
    | 10, _ =>
      exact n_bad HC (HC.below W w ht hb) 430 true (opAtW ho (by kernel_rfl)) (hW 9 (by kernel_rfl)) (by decide) (by decide) (by kernel_rfl) (fun w' hb' => hK _ w' hb' rfl)
    | 11, _ =>
      exact u_notT 431 (opAtW ho (by kernel_rfl)) (hW 10 (by kernel_rfl)) (hK _ _ (Below.refl _ _) rfl)
    | 12, _ =>
      exact v_orF 426 432 (opAtW ho (by kernel_rfl)) (hW 5 (by kernel_rfl)) (hW 11 (by kernel_rfl)) (hK _ _ (Below.refl _ _) rfl)
    | 13, _ =>
      exact v_move 433 (opAtW ho (by kernel_rfl)) (hW 12 (by kernel_rfl)) (hK _ _ (Below.refl _ _) rfl)
    | 14, _ =>
      exact n_load 6 (opAtW ho (by kernel_rfl)) (q6 a w hT hb) (hK _ _ (Below.refl _ _) rfl)
    | 15, _ =>
      exact n_load 9 (opAtW ho (by kernel_rfl)) (q9 a w hT hb) (hK _ _ (Below.refl _ _) rfl)
    | 16, _ =>
      exact o_ev (opAtW ho (by kernel_rfl)) (ev_any (5) (0) (1) w) (fun w' hb' => hK _ w' hb' rfl)
    | 17, _ =>
      exact o_ev (opAtW ho (by kernel_rfl)) (ev_any (7) (0) (2) w) (fun w' hb' => hK _ w' hb' rfl)
    | 18, _ =>
      have p435 : a.tmps[435]?.getD undef = evV ⟨1, 0, 0, 0, 0, 0, 0⟩ := (hW 14 (by kernel_rfl))
      have p436 : a.tmps[436]?.getD undef = evV ⟨4, 0, 0, 0, 0, 0, 0⟩ := (hW 15 (by kernel_rfl))
      have p437 : a.tmps[437]?.getD undef = evV ⟨5, 0, 0, 0, 1, 0, 0⟩ := (hW 16 (by kernel_rfl))
      have p438 : a.tmps[438]?.getD undef = evV ⟨7, 0, 0, 0, 2, 0, 0⟩ := (hW 17 (by kernel_rfl))
      exact n_slice [⟨1, 0, 0, 0, 0, 0, 0⟩, ⟨4, 0, 0, 0, 0, 0, 0⟩, ⟨5, 0, 0, 0, 1, 0, 0⟩, ⟨7, 0, 0, 0, 2, 0, 0⟩] #[(0, .tmp 435), (1, .tmp 436), (2, .tmp 437), (3, .tmp 438)] (opAtW ho (by kernel_rfl)) rfl (by kernel_rfl) (by decide) (by decide) (by simp [Act.eval, p435, p436, p437, p438]) (fun v w' hb' hs => hK v w' hb' hs)
    | 19, _ =>
      exact n_bad HC (HC.below W w ht hb) 439 true (opAtW ho (by kernel_rfl)) (hW 18 (by kernel_rfl)) (by decide) (by decide) (by kernel_rfl) (fun w' hb' => hK _ w' hb' rfl)
    | 20, _ =>
      exact u_notT 440 (opAtW ho (by kernel_rfl)) (hW 19 (by kernel_rfl)) (hK _ _ (Below.refl _ _) rfl)
    | 21, _ =>
      exact v_orF 434 441 (opAtW ho (by kernel_rfl)) (hW 13 (by kernel_rfl)) (hW 20 (by kernel_rfl)) (hK _ _ (Below.refl _ _) rfl)
    | 22, _ =>
      exact v_move 442 (opAtW ho (by kernel_rfl)) (hW 21 (by kernel_rfl)) (hK _ _ (Below.refl _ _) rfl)
    | 23, _ =>
      exact n_load 6 (opAtW ho (by kernel_rfl)) (q6 a w hT hb) (hK _ _ (Below.refl _ _) rfl)
    | 24, _ =>
      exact n_load 9 (opAtW ho (by kernel_rfl)) (q9 a w hT hb) (hK _ _ (Below.refl _ _) rfl)
    | 25, _ =>
      exact o_ev (opAtW ho (by kernel_rfl)) (ev_any (5) (0) (1) w) (fun w' hb' => hK _ w' hb' rfl)
    | 26, _ =>
      exact o_ev (opAtW ho (by kernel_rfl)) (ev_any (6) (0) (0) w) (fun w' hb' => hK _ w' hb' rfl)
    | 27, _ =>
      have p444 : a.tmps[444]?.getD undef = evV ⟨1, 0, 0, 0, 0, 0, 0⟩ := (hW 23 (by kernel_rfl))
      have p445 : a.tmps[445]?.getD undef = evV ⟨4, 0, 0, 0, 0, 0, 0⟩ := (hW 24 (by kernel_rfl))
      have p446 : a.tmps[446]?.getD undef = evV ⟨5, 0, 0, 0, 1, 0, 0⟩ := (hW 25 (by kernel_rfl))
      have p447 : a.tmps[447]?.getD undef = evV ⟨6, 0, 0, 0, 0, 0, 0⟩ := (hW 26 (by kernel_rfl))
      exact n_slice [⟨1, 0, 0, 0, 0, 0, 0⟩, ⟨4, 0, 0, 0, 0, 0, 0⟩, ⟨5, 0, 0, 0, 1, 0, 0⟩, ⟨6, 0, 0, 0, 0, 0, 0⟩] #[(0, .tmp 444), (1, .tmp 445), (2, .tmp 446), (3, .tmp 447)] (opAtW ho (by kernel_rfl)) rfl (by kernel_rfl) (by decide) (by decide) (by simp [Act.eval, p444, p445, p446, p447]) (fun v w' hb' hs => hK v w' hb' hs)
    | 28, _ =>
      exact n_bad HC (HC.below W w ht hb) 448 true (opAtW ho (by kernel_rfl)) (hW 27 (by kernel_rfl)) (by decide) (by decide) (by kernel_rfl) (fun w' hb' => hK _ w' hb' rfl)
    | 29, _ =>
      exact u_notT 449 (opAtW ho (by kernel_rfl)) (hW 28 (by kernel_rfl)) (hK _ _ (Below.refl _ _) rfl)
    | 30, _ =>
      exact v_orF 443 450 (opAtW ho (by kernel_rfl)) (hW 22 (by kernel_rfl)) (hW 29 (by kernel_rfl)) (hK _ _ (Below.refl _ _) rfl)
    | 31, _ =>
      exact v_move 451 (opAtW ho (by kernel_rfl)) (hW 30 (by kernel_rfl)) (hK _ _ (Below.refl _ _) rfl)
    | 32, _ =>
      exact v_move 17 (opAtW ho (by kernel_rfl)) rfl (hK _ _ (Below.refl _ _) (q17 a w hT hb))
    | 33, _ =>
      exact v_move 18 (opAtW ho (by kernel_rfl)) rfl (hK _ _ (Below.refl _ _) (q18 a w hT hb))
    | 34, _ =>
      exact o_ev (opAtW ho (by kernel_rfl)) (ev_any (5) (0) (1) w) (fun w' hb' => hK _ w' hb' rfl)
    | 35, _ =>
      exact o_by 455 (opAtW ho (by kernel_rfl)) (hW 34 (by kernel_rfl)) (by_any 1 ⟨5, 0, 0, 0, 1, 0, 0⟩ w) (fun w' hb' => hK _ w' hb' rfl)
    | 36, _ =>
      have p456 : a.tmps[456]?.getD undef = evV ⟨5, 1, 0, 0, 1, 0, 0⟩ := (hW 35 (by kernel_rfl))
      exact n_slice [⟨5, 1, 0, 0, 1, 0, 0⟩] #[(0, .tmp 456)] (opAtW ho (by kernel_rfl)) rfl (by kernel_rfl) (by decide) (by decide) (by simp [Act.eval, p456]) (fun v w' hb' hs => hK v w' hb' hs)
    | 37, _ =>
      exact n_many 457 (opAtW ho (by kernel_rfl)) (hW 36 (by kernel_rfl)) (fun u w' hb' hs => hK u w' hb' hs)
    | 38, _ =>
      have p453 : SlA [⟨1, 1, 0, 0, 0, 0, 0⟩, ⟨2, 1, 0, 0, 0, 0, 0⟩, ⟨3, 1, 0, 2, 0, 0, 0⟩, ⟨4, 1, 0, 1, 0, 0, 0⟩] (a.tmps[453]?.getD undef) w := (hW 32 (by kernel_rfl))
      have p454 : SlA [⟨1, 0, 0, 0, 0, 0, 0⟩, ⟨4, 0, 0, 0, 0, 0, 0⟩, ⟨5, 0, 0, 0, 1, 0, 0⟩] (a.tmps[454]?.getD undef) w := (hW 33 (by kernel_rfl))
      have p458 : SlA [⟨5, 1, 0, 0, 1, 0, 0⟩] (a.tmps[458]?.getD undef) w := (hW 37 (by kernel_rfl))
      refine n_lists [[⟨1, 1, 0, 0, 0, 0, 0⟩, ⟨2, 1, 0, 0, 0, 0, 0⟩, ⟨3, 1, 0, 2, 0, 0, 0⟩, ⟨4, 1, 0, 1, 0, 0, 0⟩], [⟨1, 0, 0, 0, 0, 0, 0⟩, ⟨4, 0, 0, 0, 0, 0, 0⟩, ⟨5, 0, 0, 0, 1, 0, 0⟩], [⟨5, 1, 0, 0, 1, 0, 0⟩]] [a.tmps[453]?.getD undef, a.tmps[454]?.getD undef, a.tmps[458]?.getD undef] #[(0, .tmp 453), (1, .tmp 454), (2, .tmp 458)] (opAtW ho (by kernel_rfl)) rfl rfl (by decide) (by decide) (fun j h => ?_) (by simp [Act.eval]) (fun v w' hb' hs => hK v w' hb' hs)
      match j, h with
      | 0, _ => exact p453
      | 1, _ => exact p454
      | 2, _ => exact p458
      | j + 3, h => exact absurd h (by simp)
    | 39, _ =>
      exact n_join 459 [⟨1, 1, 0, 0, 0, 0, 0⟩, ⟨2, 1, 0, 0, 0, 0, 0⟩, ⟨3, 1, 0, 2, 0, 0, 0⟩, ⟨4, 1, 0, 1, 0, 0, 0⟩, ⟨1, 0, 0, 0, 0, 0, 0⟩, ⟨4, 0, 0, 0, 0, 0, 0⟩, ⟨5, 0, 0, 0, 1, 0, 0⟩, ⟨5, 1, 0, 0, 1, 0, 0⟩] (opAtW ho (by kernel_rfl)) (hW 38 (by kernel_rfl)) (by decide) (by decide) rfl (fun u w' hb' hs => hK u w' hb' hs)
    | 40, _ =>
      exact n_bad HC (HC.below W w ht hb) 460 true (opAtW ho (by kernel_rfl)) (hW 39 (by kernel_rfl)) (by decide) (by decide) (by kernel_rfl) (fun w' hb' => hK _ w' hb' rfl)
    | 41, _ =>
      exact u_notT 461 (opAtW ho (by kernel_rfl)) (hW 40 (by kernel_rfl)) (hK _ _ (Below.refl _ _) rfl)
    | 42, _ =>
      exact v_orF 452 462 (opAtW ho (by kernel_rfl)) (hW 31 (by kernel_rfl)) (hW 41 (by kernel_rfl)) (hK _ _ (Below.refl _ _) rfl)
    | 43, _ =>
      exact v_move 463 (opAtW ho (by kernel_rfl)) (hW 42 (by kernel_rfl)) (hK _ _ (Below.refl _ _) rfl)
    | 44, _ =>
      exact v_move 17 (opAtW ho (by kernel_rfl)) rfl (hK _ _ (Below.refl _ _) (q17 a w hT hb))
    | 45, _ =>
      exact v_move 18 (opAtW ho (by kernel_rfl)) rfl (hK _ _ (Below.refl _ _) (q18 a w hT hb))
    | 46, _ =>
      exact o_ev (opAtW ho (by kernel_rfl)) (ev_any (5) (0) (2) w) (fun w' hb' => hK _ w' hb' rfl)
    | 47, _ =>
      exact o_by 467 (opAtW ho (by kernel_rfl)) (hW 46 (by kernel_rfl)) (by_any 1 ⟨5, 0, 0, 0, 2, 0, 0⟩ w) (fun w' hb' => hK _ w' hb' rfl)
    | 48, _ =>
      exact o_ev (opAtW ho (by kernel_rfl)) (ev_any (7) (0) (2) w) (fun w' hb' => hK _ w' hb' rfl)
    | 49, _ =>
      exact o_by 469 (opAtW ho (by kernel_rfl)) (hW 48 (by kernel_rfl)) (by_any 1 ⟨7, 0, 0, 0, 2, 0, 0⟩ w) (fun w' hb' => hK _ w' hb' rfl)
    | 50, _ =>
      have p468 : a.tmps[468]?.getD undef = evV ⟨5, 1, 0, 0, 2, 0, 0⟩ := (hW 47 (by kernel_rfl))
      have p470 : a.tmps[470]?.getD undef = evV ⟨7, 1, 0, 0, 2, 0, 0⟩ := (hW 49 (by kernel_rfl))
      exact n_slice [⟨5, 1, 0, 0, 2, 0, 0⟩, ⟨7, 1, 0, 0, 2, 0, 0⟩] #[(0, .tmp 468), (1, .tmp 470)] (opAtW ho (by kernel_rfl)) rfl (by kernel_rfl) (by decide) (by decide) (by simp [Act.eval, p468, p470]) (fun v w' hb' hs => hK v w' hb' hs)
    | 51, _ =>
      exact n_many 471 (opAtW ho (by kernel_rfl)) (hW 50 (by kernel_rfl)) (fun u w' hb' hs => hK u w' hb' hs)
    | 52, _ =>
      have p465 : SlA [⟨1, 1, 0, 0, 0, 0, 0⟩, ⟨2, 1, 0, 0, 0, 0, 0⟩, ⟨3, 1, 0, 2, 0, 0, 0⟩, ⟨4, 1, 0, 1, 0, 0, 0⟩] (a.tmps[465]?.getD undef) w := (hW 44 (by kernel_rfl))
      have p466 : SlA [⟨1, 0, 0, 0, 0, 0, 0⟩, ⟨4, 0, 0, 0, 0, 0, 0⟩, ⟨5, 0, 0, 0, 1, 0, 0⟩] (a.tmps[466]?.getD undef) w := (hW 45 (by kernel_rfl))
      have p472 : SlA [⟨5, 1, 0, 0, 2, 0, 0⟩, ⟨7, 1, 0, 0, 2, 0, 0⟩] (a.tmps[472]?.getD undef) w := (hW 51 (by kernel_rfl))
      refine n_lists [[⟨1, 1, 0, 0, 0, 0, 0⟩, ⟨2, 1, 0, 0, 0, 0, 0⟩, ⟨3, 1, 0, 2, 0, 0, 0⟩, ⟨4, 1, 0, 1, 0, 0, 0⟩], [⟨1, 0, 0, 0, 0, 0, 0⟩, ⟨4, 0, 0, 0, 0, 0, 0⟩, ⟨5, 0, 0, 0, 1, 0, 0⟩], [⟨5, 1, 0, 0, 2, 0, 0⟩, ⟨7, 1, 0, 0, 2, 0, 0⟩]] [a.tmps[465]?.getD undef, a.tmps[466]?.getD undef, a.tmps[472]?.getD undef] #[(0, .tmp 465), (1, .tmp 466), (2, .tmp 472)] (opAtW ho (by kernel_rfl)) rfl rfl (by decide) (by decide) (fun j h => ?_) (by simp [Act.eval]) (fun v w' hb' hs => hK v w' hb' hs)
      match j, h with
      | 0, _ => exact p465
      | 1, _ => exact p466
      | 2, _ => exact p472
      | j + 3, h => exact absurd h (by simp)
    | 53, _ =>
      exact n_join 473 [⟨1, 1, 0, 0, 0, 0, 0⟩, ⟨2, 1, 0, 0, 0, 0, 0⟩, ⟨3, 1, 0, 2, 0, 0, 0⟩, ⟨4, 1, 0, 1, 0, 0, 0⟩, ⟨1, 0, 0, 0, 0, 0, 0⟩, ⟨4, 0, 0, 0, 0, 0, 0⟩, ⟨5, 0, 0, 0, 1, 0, 0⟩, ⟨5, 1, 0, 0, 2, 0, 0⟩, ⟨7, 1, 0, 0, 2, 0, 0⟩] (opAtW ho (by kernel_rfl)) (hW 52 (by kernel_rfl)) (by decide) (by decide) rfl (fun u w' hb' hs => hK u w' hb' hs)
    | 54, _ =>
      exact n_bad HC (HC.below W w ht hb) 474 true (opAtW ho (by kernel_rfl)) (hW 53 (by kernel_rfl)) (by decide) (by decide) (by kernel_rfl) (fun w' hb' => hK _ w' hb' rfl)
    | 55, _ =>
      exact u_notT 475 (opAtW ho (by kernel_rfl)) (hW 54 (by kernel_rfl)) (hK _ _ (Below.refl _ _) rfl)
    | 56, _ =>
      exact v_orF 464 476 (opAtW ho (by kernel_rfl)) (hW 43 (by kernel_rfl)) (hW 55 (by kernel_rfl)) (hK _ _ (Below.refl _ _) rfl)
    | 57, _ =>
      exact v_move 477 (opAtW ho (by kernel_rfl)) (hW 56 (by kernel_rfl)) (hK _ _ (Below.refl _ _) rfl)
    | 58, _ =>
      exact v_move 17 (opAtW ho (by kernel_rfl)) rfl (hK _ _ (Below.refl _ _) (q17 a w hT hb))
    | 59, _ =>
      exact v_move 18 (opAtW ho (by kernel_rfl)) rfl (hK _ _ (Below.refl _ _) (q18 a w hT hb))
    | 60, _ =>
      exact o_ev (opAtW ho (by kernel_rfl)) (ev_any (5) (0) (2) w) (fun w' hb' => hK _ w' hb' rfl)
    | 61, _ =>
      exact o_by 481 (opAtW ho (by kernel_rfl)) (hW 60 (by kernel_rfl)) (by_any 1 ⟨5, 0, 0, 0, 2, 0, 0⟩ w) (fun w' hb' => hK _ w' hb' rfl)
    | 62, _ =>
      exact o_ev (opAtW ho (by kernel_rfl)) (ev_any (6) (0) (0) w) (fun w' hb' => hK _ w' hb' rfl)
    | 63, _ =>
      exact o_by 483 (opAtW ho (by kernel_rfl)) (hW 62 (by kernel_rfl)) (by_any 1 ⟨6, 0, 0, 0, 0, 0, 0⟩ w) (fun w' hb' => hK _ w' hb' rfl)
    | 64, _ =>
      have p482 : a.tmps[482]?.getD undef = evV ⟨5, 1, 0, 0, 2, 0, 0⟩ := (hW 61 (by kernel_rfl))
      have p484 : a.tmps[484]?.getD undef = evV ⟨6, 1, 0, 0, 0, 0, 0⟩ := (hW 63 (by kernel_rfl))
      exact n_slice [⟨5, 1, 0, 0, 2, 0, 0⟩, ⟨6, 1, 0, 0, 0, 0, 0⟩] #[(0, .tmp 482), (1, .tmp 484)] (opAtW ho (by kernel_rfl)) rfl (by kernel_rfl) (by decide) (by decide) (by simp [Act.eval, p482, p484]) (fun v w' hb' hs => hK v w' hb' hs)
    | 65, _ =>
      exact n_many 485 (opAtW ho (by kernel_rfl)) (hW 64 (by kernel_rfl)) (fun u w' hb' hs => hK u w' hb' hs)
    | 66, _ =>
      have p479 : SlA [⟨1, 1, 0, 0, 0, 0, 0⟩, ⟨2, 1, 0, 0, 0, 0, 0⟩, ⟨3, 1, 0, 2, 0, 0, 0⟩, ⟨4, 1, 0, 1, 0, 0, 0⟩] (a.tmps[479]?.getD undef) w := (hW 58 (by kernel_rfl))
      have p480 : SlA [⟨1, 0, 0, 0, 0, 0, 0⟩, ⟨4, 0, 0, 0, 0, 0, 0⟩, ⟨5, 0, 0, 0, 1, 0, 0⟩] (a.tmps[480]?.getD undef) w := (hW 59 (by kernel_rfl))
      have p486 : SlA [⟨5, 1, 0, 0, 2, 0, 0⟩, ⟨6, 1, 0, 0, 0, 0, 0⟩] (a.tmps[486]?.getD undef) w := (hW 65 (by kernel_rfl))
      refine n_lists [[⟨1, 1, 0, 0, 0, 0, 0⟩, ⟨2, 1, 0, 0, 0, 0, 0⟩, ⟨3, 1, 0, 2, 0, 0, 0⟩, ⟨4, 1, 0, 1, 0, 0, 0⟩], [⟨1, 0, 0, 0, 0, 0, 0⟩, ⟨4, 0, 0, 0, 0, 0, 0⟩, ⟨5, 0, 0, 0, 1, 0, 0⟩], [⟨5, 1, 0, 0, 2, 0, 0⟩, ⟨6, 1, 0, 0, 0, 0, 0⟩]] [a.tmps[479]?.getD undef, a.tmps[480]?.getD undef, a.tmps[486]?.getD undef] #[(0, .tmp 479), (1, .tmp 480), (2, .tmp 486)] (opAtW ho (by kernel_rfl)) rfl rfl (by decide) (by decide) (fun j h => ?_) (by simp [Act.eval]) (fun v w' hb' hs => hK v w' hb' hs)
      match j, h with
      | 0, _ => exact p479
      | 1, _ => exact p480
      | 2, _ => exact p486
      | j + 3, h => exact absurd h (by simp)
    | 67, _ =>
      exact n_join 487 [⟨1, 1, 0, 0, 0, 0, 0⟩, ⟨2, 1, 0, 0, 0, 0, 0⟩, ⟨3, 1, 0, 2, 0, 0, 0⟩, ⟨4, 1, 0, 1, 0, 0, 0⟩, ⟨1, 0, 0, 0, 0, 0, 0⟩, ⟨4, 0, 0, 0, 0, 0, 0⟩, ⟨5, 0, 0, 0, 1, 0, 0⟩, ⟨5, 1, 0, 0, 2, 0, 0⟩, ⟨6, 1, 0, 0, 0, 0, 0⟩] (opAtW ho (by kernel_rfl)) (hW 66 (by kernel_rfl)) (by decide) (by decide) rfl (fun u w' hb' hs => hK u w' hb' hs)
    | 68, _ =>
      exact n_bad HC (HC.below W w ht hb) 488 true (opAtW ho (by kernel_rfl)) (hW 67 (by kernel_rfl)) (by decide) (by decide) (by kernel_rfl) (fun w' hb' => hK _ w' hb' rfl)
    | 69, _ =>
      exact u_notT 489 (opAtW ho (by kernel_rfl)) (hW 68 (by kernel_rfl)) (hK _ _ (Below.refl _ _) rfl)
    | 70, _ =>
      exact v_orF 478 490 (opAtW ho (by kernel_rfl)) (hW 57 (by kernel_rfl)) (hW 69 (by kernel_rfl)) (hK _ _ (Below.refl _ _) rfl)
    | 71, _ =>
      exact v_move 491 (opAtW ho (by kernel_rfl)) (hW 70 (by kernel_rfl)) (hK _ _ (Below.refl _ _) rfl)
    | 72, _ =>
      exact v_move 17 (opAtW ho (by kernel_rfl)) rfl (hK _ _ (Below.refl _ _) (q17 a w hT hb))
    | 73, _ =>
      exact v_move 18 (opAtW ho (by kernel_rfl)) rfl (hK _ _ (Below.refl _ _) (q18 a w hT hb))
    | 74, _ =>
      exact o_ev (opAtW ho (by kernel_rfl)) (ev_any (5) (0) (2) w) (fun w' hb' => hK _ w' hb' rfl)
    | 75, _ =>
      exact o_by 495 (opAtW ho (by kernel_rfl)) (hW 74 (by kernel_rfl)) (by_any 1 ⟨5, 0, 0, 0, 2, 0, 0⟩ w) (fun w' hb' => hK _ w' hb' rfl)
    | 76, _ =>
      exact o_why (opAtW ho (by kernel_rfl)) (why_any 5 0 w) (fun w' hb' => hK _ w' hb' rfl)
    | 77, _ =>
      exact o_by 497 (opAtW ho (by kernel_rfl)) (hW 76 (by kernel_rfl)) (by_any 1 ⟨10, 0, 0, 0, 0, 0, 5⟩ w) (fun w' hb' => hK _ w' hb' rfl)
    | 78, _ =>
      exact o_ev (opAtW ho (by kernel_rfl)) (ev_any (11) (1) (0) w) (fun w' hb' => hK _ w' hb' rfl)
    | 79, _ =>
      exact o_by 499 (opAtW ho (by kernel_rfl)) (hW 78 (by kernel_rfl)) (by_any 1 ⟨11, 0, 0, 1, 0, 0, 0⟩ w) (fun w' hb' => hK _ w' hb' rfl)
    | 80, _ =>
      have p496 : a.tmps[496]?.getD undef = evV ⟨5, 1, 0, 0, 2, 0, 0⟩ := (hW 75 (by kernel_rfl))
      have p498 : a.tmps[498]?.getD undef = evV ⟨10, 1, 0, 0, 0, 0, 5⟩ := (hW 77 (by kernel_rfl))
      have p500 : a.tmps[500]?.getD undef = evV ⟨11, 1, 0, 1, 0, 0, 0⟩ := (hW 79 (by kernel_rfl))
      exact n_slice [⟨5, 1, 0, 0, 2, 0, 0⟩, ⟨10, 1, 0, 0, 0, 0, 5⟩, ⟨11, 1, 0, 1, 0, 0, 0⟩] #[(0, .tmp 496), (1, .tmp 498), (2, .tmp 500)] (opAtW ho (by kernel_rfl)) rfl (by kernel_rfl) (by decide) (by decide) (by simp [Act.eval, p496, p498, p500]) (fun v w' hb' hs => hK v w' hb' hs)
    | 81, _ =>
      exact n_many 501 (opAtW ho (by kernel_rfl)) (hW 80 (by kernel_rfl)) (fun u w' hb' hs => hK u w' hb' hs)
    | 82, _ =>
      have p493 : SlA [⟨1, 1, 0, 0, 0, 0, 0⟩, ⟨2, 1, 0, 0, 0, 0, 0⟩, ⟨3, 1, 0, 2, 0, 0, 0⟩, ⟨4, 1, 0, 1, 0, 0, 0⟩] (a.tmps[493]?.getD undef) w := (hW 72 (by kernel_rfl))
      have p494 : SlA [⟨1, 0, 0, 0, 0, 0, 0⟩, ⟨4, 0, 0, 0, 0, 0, 0⟩, ⟨5, 0, 0, 0, 1, 0, 0⟩] (a.tmps[494]?.getD undef) w := (hW 73 (by kernel_rfl))
      have p502 : SlA [⟨5, 1, 0, 0, 2, 0, 0⟩, ⟨10, 1, 0, 0, 0, 0, 5⟩, ⟨11, 1, 0, 1, 0, 0, 0⟩] (a.tmps[502]?.getD undef) w := (hW 81 (by kernel_rfl))
      refine n_lists [[⟨1, 1, 0, 0, 0, 0, 0⟩, ⟨2, 1, 0, 0, 0, 0, 0⟩, ⟨3, 1, 0, 2, 0, 0, 0⟩, ⟨4, 1, 0, 1, 0, 0, 0⟩], [⟨1, 0, 0, 0, 0, 0, 0⟩, ⟨4, 0, 0, 0, 0, 0, 0⟩, ⟨5, 0, 0, 0, 1, 0, 0⟩], [⟨5, 1, 0, 0, 2, 0, 0⟩, ⟨10, 1, 0, 0, 0, 0, 5⟩, ⟨11, 1, 0, 1, 0, 0, 0⟩]] [a.tmps[493]?.getD undef, a.tmps[494]?.getD undef, a.tmps[502]?.getD undef] #[(0, .tmp 493), (1, .tmp 494), (2, .tmp 502)] (opAtW ho (by kernel_rfl)) rfl rfl (by decide) (by decide) (fun j h => ?_) (by simp [Act.eval]) (fun v w' hb' hs => hK v w' hb' hs)
      match j, h with
      | 0, _ => exact p493
      | 1, _ => exact p494
      | 2, _ => exact p502
      | j + 3, h => exact absurd h (by simp)
    | 83, _ =>
      exact n_join 503 [⟨1, 1, 0, 0, 0, 0, 0⟩, ⟨2, 1, 0, 0, 0, 0, 0⟩, ⟨3, 1, 0, 2, 0, 0, 0⟩, ⟨4, 1, 0, 1, 0, 0, 0⟩, ⟨1, 0, 0, 0, 0, 0, 0⟩, ⟨4, 0, 0, 0, 0, 0, 0⟩, ⟨5, 0, 0, 0, 1, 0, 0⟩, ⟨5, 1, 0, 0, 2, 0, 0⟩, ⟨10, 1, 0, 0, 0, 0, 5⟩, ⟨11, 1, 0, 1, 0, 0, 0⟩] (opAtW ho (by kernel_rfl)) (hW 82 (by kernel_rfl)) (by decide) (by decide) rfl (fun u w' hb' hs => hK u w' hb' hs)
    | 84, _ =>
      exact n_over 504 (opAtW ho (by kernel_rfl)) (hW 83 (by kernel_rfl)) (fun u w' hb' hs => hK u w' hb' hs)
    | 85, _ =>
      exact n_fine HC (HC.below W w ht hb) 505 true (opAtW ho (by kernel_rfl)) (hW 84 (by kernel_rfl)) (by decide) (by decide) (by decide) (by decide) (by kernel_rfl) (fun w' hb' => hK _ w' hb' rfl)
    | 86, _ =>
      exact u_notT 506 (opAtW ho (by kernel_rfl)) (hW 85 (by kernel_rfl)) (hK _ _ (Below.refl _ _) rfl)
    | 87, _ =>
      exact v_orF 492 507 (opAtW ho (by kernel_rfl)) (hW 71 (by kernel_rfl)) (hW 86 (by kernel_rfl)) (hK _ _ (Below.refl _ _) rfl)
    | i + 88, h => exact absurd (show i + 88 < 88 from h) (by omega)
  · intro us w hu hb hS
    have hat : ∀ j (hj : j < sn36_ds.length), (putAll T0 sn36_ds us)[sn36_ds[j]]?.getD undef = us.getD j undef := fun j hj => by
      rw [putAll_at T0 sn36_ds us j hj hu.symm (by decide) (hlt _ (List.getElem_mem hj)), ← List.getD_eq_getElem?_getD]
    have r508 := hS 87 (by decide)
    rw [← hat 87 (by decide)] at r508
    exact hend _ w (by rw [putAll_size]; exact hsz) hb (fun x hx => putAll_far sn36_ds us T0 x hx) r508
end Go.Proofs.YtjennlkindbpoaaDoor
