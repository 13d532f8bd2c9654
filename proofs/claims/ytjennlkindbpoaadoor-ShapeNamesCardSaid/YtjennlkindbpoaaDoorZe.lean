/-
  SEVERAL TEXTS IN ONE (a claim has sixty files at most): Sne, Snf, Sng, Snh, Sni: the head of each stands ahead of it. No condition but theirs.
-/
import Derived.Test.YtjennlkindbpoaaDoorZn
import Derived.Deep.WholeRow
import Derived.Laws.CopyOwn
import Derived.Test.YtjennlkindbpoaaDoorZb
/-
  FOR ShapeNames: its regions 38, 39, 40, 44, by kinds. Laid by gen/gen_sn.py. Conditions: CheckC.
-/
namespace Go.Proofs.YtjennlkindbpoaaDoor
set_option maxRecDepth 100000
open Go.RowKit Go.Deep
set_option linter.unusedVariables false

noncomputable def sn38_ops : Array Oper := opsW Tryd.f3 38
def sn38_ds : List Nat := [509, 510, 511, 512, 513, 514, 515, 516, 19]
def sn38_S : Nat → Value → World → Prop
  | 0, v, w => v = evV ⟨1, 0, 0, 0, 0, 0, 0⟩
  | 1, v, w => v = evV ⟨1, 2, 0, 0, 0, 0, 0⟩
  | 2, v, w => v = evV ⟨4, 0, 0, 1, 0, 0, 0⟩
  | 3, v, w => v = evV ⟨4, 2, 0, 1, 0, 0, 0⟩
  | 4, v, w => v = evV ⟨5, 0, 0, 0, 1, 0, 0⟩
  | 5, v, w => v = evV ⟨5, 2, 0, 0, 1, 0, 0⟩
  | 6, v, w => SlA [⟨1, 2, 0, 0, 0, 0, 0⟩, ⟨4, 2, 0, 1, 0, 0, 0⟩, ⟨5, 2, 0, 0, 1, 0, 0⟩] (v) w
  | 7, v, w => SlA [⟨1, 2, 0, 0, 0, 0, 0⟩, ⟨4, 2, 0, 1, 0, 0, 0⟩, ⟨5, 2, 0, 0, 1, 0, 0⟩] (v) w
  | 8, v, w => SlA [⟨1, 2, 0, 0, 0, 0, 0⟩, ⟨4, 2, 0, 1, 0, 0, 0⟩, ⟨5, 2, 0, 0, 1, 0, 0⟩] (v) w
  | _ + 9, _, _ => False
theorem sn38_mono (i : Nat) (v : Value) (w w' : World) (b : Below w.heap.size w w') (h : sn38_S i v w) : sn38_S i v w' := by
  match i, h with
  | 0, h => exact h
  | 1, h => exact h
  | 2, h => exact h
  | 3, h => exact h
  | 4, h => exact h
  | 5, h => exact h
  | 6, h => exact SlA.stays h b
  | 7, h => exact SlA.stays h b
  | 8, h => exact SlA.stays h b
set_option maxRecDepth 100000 in
set_option maxHeartbeats 4000000 in
theorem sn38 {Tb : World → Prop} (HC : CheckC Tb) {id : Nat} {ops : Array Oper} (hops : ops = sn38_ops) (T0 : Array Value) (hsz : T0.size = 726) (W : World) (ht : Tb W) (p6 : PtE ⟨1, 0, 0, 0, 0, 0, 0⟩ (T0[6]?.getD undef) W) {Q : Exit → Act → World → Prop}
    (hend : ∀ (T : Array Value) (w : World), T.size = 726 → Below W.heap.size W w → (∀ x, x ∉ sn38_ds → T[x]? = T0[x]?) → SlA [⟨1, 2, 0, 0, 0, 0, 0⟩, ⟨4, 2, 0, 1, 0, 0, 0⟩, ⟨5, 2, 0, 0, 1, 0, 0⟩] (T[19]?.getD undef) w → Q .normal ⟨T, []⟩ w) : (Code.region id ops false).wp Tryd.prog Q ⟨T0, []⟩ W := by
  subst hops
  have hos : sn38_ops.size = 9 := by kernel_rfl
  have hga : (List.range 9).all (fun i => match sn38_ops[i]? with | some o => o.guard == ([none, none, none, none, none, none, none, none, none] : List (Option (Nat × Bool))).getD i none | none => false) = true := by kernel_rfl
  have q6 : ∀ (a : Act) (w : World), (∀ t, t ∉ sn38_ds → a.tmps[t]?.getD undef = T0[t]?.getD undef) → Below W.heap.size W w → PtE ⟨1, 0, 0, 0, 0, 0, 0⟩ (a.tmps[6]?.getD undef) w := fun a w hT hb => by rw [hT 6 (by decide)]; exact PtE.stays p6 hb
  have hlt : ∀ x ∈ sn38_ds, x < T0.size := fun x hx => by
    have hall : (sn38_ds.all fun d => decide (d < 726)) = true := by decide
    have := List.all_eq_true.1 hall x hx
    simp only [decide_eq_true_eq] at this
    omega
  refine wp_region_kindsS sn38_S sn38_ds W T0 (by decide) hlt (by kernel_rfl) (fun i o j want ho hgd => ?_) sn38_mono ?_ ?_
  · have hi : i < 9 := by rw [← hos]; exact (Array.getElem?_eq_some_iff.1 ho).1
    have h1 := List.all_eq_true.1 hga i (by simpa using hi)
    rw [ho] at h1
    simp only [hgd, beq_iff_eq] at h1
    match i, hi with
    | 0, _ => cases h1
    | 1, _ => cases h1
    | 2, _ => cases h1
    | 3, _ => cases h1
    | 4, _ => cases h1
    | 5, _ => cases h1
    | 6, _ => cases h1
    | 7, _ => cases h1
    | 8, _ => cases h1
    | i + 9, h => exact absurd (show i + 9 < 9 from h) (by omega)
  · intro i o ho hi a w hT hW hb K hK
    match i, hi with
    | 0, _ =>
      exact n_load 6 (opAtW ho (by kernel_rfl)) (q6 a w hT hb) (hK _ _ (Below.refl _ _) rfl)
    | 1, _ =>
      exact o_by 509 (opAtW ho (by kernel_rfl)) (hW 0 (by decide)) (by_any 2 ⟨1, 0, 0, 0, 0, 0, 0⟩ w) (fun w' hb' => hK _ w' hb' rfl)
    | 2, _ =>
      exact o_ev (opAtW ho (by kernel_rfl)) (ev_any (4) (1) (0) w) (fun w' hb' => hK _ w' hb' rfl)
    | 3, _ =>
      exact o_by 511 (opAtW ho (by kernel_rfl)) (hW 2 (by decide)) (by_any 2 ⟨4, 0, 0, 1, 0, 0, 0⟩ w) (fun w' hb' => hK _ w' hb' rfl)
    | 4, _ =>
      exact o_ev (opAtW ho (by kernel_rfl)) (ev_any (5) (0) (1) w) (fun w' hb' => hK _ w' hb' rfl)
    | 5, _ =>
      exact o_by 513 (opAtW ho (by kernel_rfl)) (hW 4 (by decide)) (by_any 2 ⟨5, 0, 0, 0, 1, 0, 0⟩ w) (fun w' hb' => hK _ w' hb' rfl)
    | 6, _ =>
      have p510 : a.tmps[510]?.getD undef = evV ⟨1, 2, 0, 0, 0, 0, 0⟩ := (hW 1 (by decide))
      have p512 : a.tmps[512]?.getD undef = evV ⟨4, 2, 0, 1, 0, 0, 0⟩ := (hW 3 (by decide))
      have p514 : a.tmps[514]?.getD undef = evV ⟨5, 2, 0, 0, 1, 0, 0⟩ := (hW 5 (by decide))
      exact n_slice [⟨1, 2, 0, 0, 0, 0, 0⟩, ⟨4, 2, 0, 1, 0, 0, 0⟩, ⟨5, 2, 0, 0, 1, 0, 0⟩] #[(0, .tmp 510), (1, .tmp 512), (2, .tmp 514)] (opAtW ho (by kernel_rfl)) rfl (by kernel_rfl) (by decide) (by decide) (by simp [Act.eval, p510, p512, p514]) (fun v w' hb' hs => hK v w' hb' hs)
    | 7, _ =>
      exact n_many 515 (opAtW ho (by kernel_rfl)) (hW 6 (by decide)) (fun u w' hb' hs => hK u w' hb' hs)
    | 8, _ =>
      exact v_assign 516 (opAtW ho (by kernel_rfl)) rfl (hK _ _ (Below.refl _ _) (hW 7 (by decide)))
    | i + 9, h => exact absurd (show i + 9 < 9 from h) (by omega)
  · intro us w hu hb hS
    have hat : ∀ j (hj : j < sn38_ds.length), (putAll T0 sn38_ds us)[sn38_ds[j]]?.getD undef = us.getD j undef := fun j hj => by
      rw [putAll_at T0 sn38_ds us j hj hu.symm (by decide) (hlt _ (List.getElem_mem hj)), ← List.getD_eq_getElem?_getD]
    have r19 := hS 8 (by decide)
    rw [← hat 8 (by decide)] at r19
    exact hend _ w (by rw [putAll_size]; exact hsz) hb (fun x hx => putAll_far sn38_ds us T0 x hx) r19
noncomputable def sn39_ops : Array Oper := opsW Tryd.f3 39
def sn39_ds : List Nat := [517, 518, 519, 520, 521, 522, 523, 524, 525, 526, 527, 528, 20]
def sn39_S : Nat → Value → World → Prop
  | 0, v, w => v = evV ⟨1, 0, 0, 0, 0, 0, 0⟩
  | 1, v, w => v = evV ⟨2, 0, 0, 0, 0, 0, 0⟩
  | 2, v, w => v = evV ⟨3, 0, 0, 2, 0, 0, 0⟩
  | 3, v, w => SlA [⟨1, 0, 0, 0, 0, 0, 0⟩, ⟨2, 0, 0, 0, 0, 0, 0⟩, ⟨3, 0, 0, 2, 0, 0, 0⟩] (v) w
  | 4, v, w => SlA [⟨1, 0, 0, 0, 0, 0, 0⟩, ⟨2, 0, 0, 0, 0, 0, 0⟩, ⟨3, 0, 0, 2, 0, 0, 0⟩] (v) w
  | 5, v, w => SlA [⟨1, 2, 0, 0, 0, 0, 0⟩, ⟨4, 2, 0, 1, 0, 0, 0⟩, ⟨5, 2, 0, 0, 1, 0, 0⟩] (v) w
  | 6, v, w => v = evV ⟨4, 0, 0, 0, 0, 0, 0⟩
  | 7, v, w => v = evV ⟨5, 0, 0, 0, 2, 0, 0⟩
  | 8, v, w => SlA [⟨4, 0, 0, 0, 0, 0, 0⟩, ⟨5, 0, 0, 0, 2, 0, 0⟩] (v) w
  | 9, v, w => SlA [⟨4, 0, 0, 0, 0, 0, 0⟩, ⟨5, 0, 0, 0, 2, 0, 0⟩] (v) w
  | 10, v, w => LsA [[⟨1, 0, 0, 0, 0, 0, 0⟩, ⟨2, 0, 0, 0, 0, 0, 0⟩, ⟨3, 0, 0, 2, 0, 0, 0⟩], [⟨1, 2, 0, 0, 0, 0, 0⟩, ⟨4, 2, 0, 1, 0, 0, 0⟩, ⟨5, 2, 0, 0, 1, 0, 0⟩], [⟨4, 0, 0, 0, 0, 0, 0⟩, ⟨5, 0, 0, 0, 2, 0, 0⟩]] (v) w
  | 11, v, w => SlA [⟨1, 0, 0, 0, 0, 0, 0⟩, ⟨2, 0, 0, 0, 0, 0, 0⟩, ⟨3, 0, 0, 2, 0, 0, 0⟩, ⟨1, 2, 0, 0, 0, 0, 0⟩, ⟨4, 2, 0, 1, 0, 0, 0⟩, ⟨5, 2, 0, 0, 1, 0, 0⟩, ⟨4, 0, 0, 0, 0, 0, 0⟩, ⟨5, 0, 0, 0, 2, 0, 0⟩] (v) w
  | 12, v, w => SlA [⟨1, 0, 0, 0, 0, 0, 0⟩, ⟨2, 0, 0, 0, 0, 0, 0⟩, ⟨3, 0, 0, 2, 0, 0, 0⟩, ⟨1, 2, 0, 0, 0, 0, 0⟩, ⟨4, 2, 0, 1, 0, 0, 0⟩, ⟨5, 2, 0, 0, 1, 0, 0⟩, ⟨4, 0, 0, 0, 0, 0, 0⟩, ⟨5, 0, 0, 0, 2, 0, 0⟩] (v) w
  | _ + 13, _, _ => False
theorem sn39_mono (i : Nat) (v : Value) (w w' : World) (b : Below w.heap.size w w') (h : sn39_S i v w) : sn39_S i v w' := by
  match i, h with
  | 0, h => exact h
  | 1, h => exact h
  | 2, h => exact h
  | 3, h => exact SlA.stays h b
  | 4, h => exact SlA.stays h b
  | 5, h => exact SlA.stays h b
  | 6, h => exact h
  | 7, h => exact h
  | 8, h => exact SlA.stays h b
  | 9, h => exact SlA.stays h b
  | 10, h => exact LsA.stays h b
  | 11, h => exact SlA.stays h b
  | 12, h => exact SlA.stays h b
set_option maxRecDepth 100000 in
set_option maxHeartbeats 4000000 in
theorem sn39 {Tb : World → Prop} (HC : CheckC Tb) {id : Nat} {ops : Array Oper} (hops : ops = sn39_ops) (T0 : Array Value) (hsz : T0.size = 726) (W : World) (ht : Tb W) (p6 : PtE ⟨1, 0, 0, 0, 0, 0, 0⟩ (T0[6]?.getD undef) W) (p7 : PtE ⟨2, 0, 0, 0, 0, 0, 0⟩ (T0[7]?.getD undef) W) (p8 : PtE ⟨3, 0, 0, 2, 0, 0, 0⟩ (T0[8]?.getD undef) W) (p9 : PtE ⟨4, 0, 0, 0, 0, 0, 0⟩ (T0[9]?.getD undef) W) (p19 : SlA [⟨1, 2, 0, 0, 0, 0, 0⟩, ⟨4, 2, 0, 1, 0, 0, 0⟩, ⟨5, 2, 0, 0, 1, 0, 0⟩] (T0[19]?.getD undef) W) {Q : Exit → Act → World → Prop}
    (hend : ∀ (T : Array Value) (w : World), T.size = 726 → Below W.heap.size W w → (∀ x, x ∉ sn39_ds → T[x]? = T0[x]?) → SlA [⟨1, 0, 0, 0, 0, 0, 0⟩, ⟨2, 0, 0, 0, 0, 0, 0⟩, ⟨3, 0, 0, 2, 0, 0, 0⟩, ⟨1, 2, 0, 0, 0, 0, 0⟩, ⟨4, 2, 0, 1, 0, 0, 0⟩, ⟨5, 2, 0, 0, 1, 0, 0⟩, ⟨4, 0, 0, 0, 0, 0, 0⟩, ⟨5, 0, 0, 0, 2, 0, 0⟩] (T[20]?.getD undef) w → Q .normal ⟨T, []⟩ w) : (Code.region id ops true).wp Tryd.prog Q ⟨T0, []⟩ W := by
  subst hops
  have hos : sn39_ops.size = 13 := by kernel_rfl
  have hga : (List.range 13).all (fun i => match sn39_ops[i]? with | some o => o.guard == ([none, none, none, none, none, none, none, none, none, none, none, none, none] : List (Option (Nat × Bool))).getD i none | none => false) = true := by kernel_rfl
  have q6 : ∀ (a : Act) (w : World), (∀ t, t ∉ sn39_ds → a.tmps[t]?.getD undef = T0[t]?.getD undef) → Below W.heap.size W w → PtE ⟨1, 0, 0, 0, 0, 0, 0⟩ (a.tmps[6]?.getD undef) w := fun a w hT hb => by rw [hT 6 (by decide)]; exact PtE.stays p6 hb
  have q7 : ∀ (a : Act) (w : World), (∀ t, t ∉ sn39_ds → a.tmps[t]?.getD undef = T0[t]?.getD undef) → Below W.heap.size W w → PtE ⟨2, 0, 0, 0, 0, 0, 0⟩ (a.tmps[7]?.getD undef) w := fun a w hT hb => by rw [hT 7 (by decide)]; exact PtE.stays p7 hb
  have q8 : ∀ (a : Act) (w : World), (∀ t, t ∉ sn39_ds → a.tmps[t]?.getD undef = T0[t]?.getD undef) → Below W.heap.size W w → PtE ⟨3, 0, 0, 2, 0, 0, 0⟩ (a.tmps[8]?.getD undef) w := fun a w hT hb => by rw [hT 8 (by decide)]; exact PtE.stays p8 hb
  have q9 : ∀ (a : Act) (w : World), (∀ t, t ∉ sn39_ds → a.tmps[t]?.getD undef = T0[t]?.getD undef) → Below W.heap.size W w → PtE ⟨4, 0, 0, 0, 0, 0, 0⟩ (a.tmps[9]?.getD undef) w := fun a w hT hb => by rw [hT 9 (by decide)]; exact PtE.stays p9 hb
  have q19 : ∀ (a : Act) (w : World), (∀ t, t ∉ sn39_ds → a.tmps[t]?.getD undef = T0[t]?.getD undef) → Below W.heap.size W w → SlA [⟨1, 2, 0, 0, 0, 0, 0⟩, ⟨4, 2, 0, 1, 0, 0, 0⟩, ⟨5, 2, 0, 0, 1, 0, 0⟩] (a.tmps[19]?.getD undef) w := fun a w hT hb => by rw [hT 19 (by decide)]; exact SlA.stays p19 hb
  have hlt : ∀ x ∈ sn39_ds, x < T0.size := fun x hx => by
    have hall : (sn39_ds.all fun d => decide (d < 726)) = true := by decide
    have := List.all_eq_true.1 hall x hx
    simp only [decide_eq_true_eq] at this
    omega
  refine wp_region_kinds3 sn39_S sn39_ds W T0 (by decide) hlt (by kernel_rfl) (by kernel_rfl) (fun i o j want ho hgd => ?_) sn39_mono ?_ ?_
  · have hi : i < 13 := by rw [← hos]; exact (Array.getElem?_eq_some_iff.1 ho).1
    have h1 := List.all_eq_true.1 hga i (by simpa using hi)
    rw [ho] at h1
    simp only [hgd, beq_iff_eq] at h1
    match i, hi with
    | 0, _ => cases h1
    | 1, _ => cases h1
    | 2, _ => cases h1
    | 3, _ => cases h1
    | 4, _ => cases h1
    | 5, _ => cases h1
    | 6, _ => cases h1
    | 7, _ => cases h1
    | 8, _ => cases h1
    | 9, _ => cases h1
    | 10, _ => cases h1
    | 11, _ => cases h1
    | 12, _ => cases h1
    | i + 13, h => exact absurd (show i + 13 < 13 from h) (by omega)
  · intro i o ho hi a w hT hW hb K hK
    match i, hi with
    | 0, _ =>
      exact n_load 6 (opAtW ho (by kernel_rfl)) (q6 a w hT hb) (hK _ _ (Below.refl _ _) rfl)
    | 1, _ =>
      exact n_load 7 (opAtW ho (by kernel_rfl)) (q7 a w hT hb) (hK _ _ (Below.refl _ _) rfl)
    | 2, _ =>
      exact n_load 8 (opAtW ho (by kernel_rfl)) (q8 a w hT hb) (hK _ _ (Below.refl _ _) rfl)
    | 3, _ =>
      have p517 : a.tmps[517]?.getD undef = evV ⟨1, 0, 0, 0, 0, 0, 0⟩ := (hW 0 (by kernel_rfl))
      have p518 : a.tmps[518]?.getD undef = evV ⟨2, 0, 0, 0, 0, 0, 0⟩ := (hW 1 (by kernel_rfl))
      have p519 : a.tmps[519]?.getD undef = evV ⟨3, 0, 0, 2, 0, 0, 0⟩ := (hW 2 (by kernel_rfl))
      exact n_slice [⟨1, 0, 0, 0, 0, 0, 0⟩, ⟨2, 0, 0, 0, 0, 0, 0⟩, ⟨3, 0, 0, 2, 0, 0, 0⟩] #[(0, .tmp 517), (1, .tmp 518), (2, .tmp 519)] (opAtW ho (by kernel_rfl)) rfl (by kernel_rfl) (by decide) (by decide) (by simp [Act.eval, p517, p518, p519]) (fun v w' hb' hs => hK v w' hb' hs)
    | 4, _ =>
      exact n_many 520 (opAtW ho (by kernel_rfl)) (hW 3 (by kernel_rfl)) (fun u w' hb' hs => hK u w' hb' hs)
    | 5, _ =>
      exact v_move 19 (opAtW ho (by kernel_rfl)) rfl (hK _ _ (Below.refl _ _) (q19 a w hT hb))
    | 6, _ =>
      exact n_load 9 (opAtW ho (by kernel_rfl)) (q9 a w hT hb) (hK _ _ (Below.refl _ _) rfl)
    | 7, _ =>
      exact o_ev (opAtW ho (by kernel_rfl)) (ev_any (5) (0) (2) w) (fun w' hb' => hK _ w' hb' rfl)
    | 8, _ =>
      have p523 : a.tmps[523]?.getD undef = evV ⟨4, 0, 0, 0, 0, 0, 0⟩ := (hW 6 (by kernel_rfl))
      have p524 : a.tmps[524]?.getD undef = evV ⟨5, 0, 0, 0, 2, 0, 0⟩ := (hW 7 (by kernel_rfl))
      exact n_slice [⟨4, 0, 0, 0, 0, 0, 0⟩, ⟨5, 0, 0, 0, 2, 0, 0⟩] #[(0, .tmp 523), (1, .tmp 524)] (opAtW ho (by kernel_rfl)) rfl (by kernel_rfl) (by decide) (by decide) (by simp [Act.eval, p523, p524]) (fun v w' hb' hs => hK v w' hb' hs)
    | 9, _ =>
      exact n_many 525 (opAtW ho (by kernel_rfl)) (hW 8 (by kernel_rfl)) (fun u w' hb' hs => hK u w' hb' hs)
    | 10, _ =>
      have p521 : SlA [⟨1, 0, 0, 0, 0, 0, 0⟩, ⟨2, 0, 0, 0, 0, 0, 0⟩, ⟨3, 0, 0, 2, 0, 0, 0⟩] (a.tmps[521]?.getD undef) w := (hW 4 (by kernel_rfl))
      have p522 : SlA [⟨1, 2, 0, 0, 0, 0, 0⟩, ⟨4, 2, 0, 1, 0, 0, 0⟩, ⟨5, 2, 0, 0, 1, 0, 0⟩] (a.tmps[522]?.getD undef) w := (hW 5 (by kernel_rfl))
      have p526 : SlA [⟨4, 0, 0, 0, 0, 0, 0⟩, ⟨5, 0, 0, 0, 2, 0, 0⟩] (a.tmps[526]?.getD undef) w := (hW 9 (by kernel_rfl))
      refine n_lists [[⟨1, 0, 0, 0, 0, 0, 0⟩, ⟨2, 0, 0, 0, 0, 0, 0⟩, ⟨3, 0, 0, 2, 0, 0, 0⟩], [⟨1, 2, 0, 0, 0, 0, 0⟩, ⟨4, 2, 0, 1, 0, 0, 0⟩, ⟨5, 2, 0, 0, 1, 0, 0⟩], [⟨4, 0, 0, 0, 0, 0, 0⟩, ⟨5, 0, 0, 0, 2, 0, 0⟩]] [a.tmps[521]?.getD undef, a.tmps[522]?.getD undef, a.tmps[526]?.getD undef] #[(0, .tmp 521), (1, .tmp 522), (2, .tmp 526)] (opAtW ho (by kernel_rfl)) rfl rfl (by decide) (by decide) (fun j h => ?_) (by simp [Act.eval]) (fun v w' hb' hs => hK v w' hb' hs)
      match j, h with
      | 0, _ => exact p521
      | 1, _ => exact p522
      | 2, _ => exact p526
      | j + 3, h => exact absurd h (by simp)
    | 11, _ =>
      exact n_join 527 [⟨1, 0, 0, 0, 0, 0, 0⟩, ⟨2, 0, 0, 0, 0, 0, 0⟩, ⟨3, 0, 0, 2, 0, 0, 0⟩, ⟨1, 2, 0, 0, 0, 0, 0⟩, ⟨4, 2, 0, 1, 0, 0, 0⟩, ⟨5, 2, 0, 0, 1, 0, 0⟩, ⟨4, 0, 0, 0, 0, 0, 0⟩, ⟨5, 0, 0, 0, 2, 0, 0⟩] (opAtW ho (by kernel_rfl)) (hW 10 (by kernel_rfl)) (by decide) (by decide) rfl (fun u w' hb' hs => hK u w' hb' hs)
    | 12, _ =>
      exact v_assign 528 (opAtW ho (by kernel_rfl)) rfl (hK _ _ (Below.refl _ _) (hW 11 (by kernel_rfl)))
    | i + 13, h => exact absurd (show i + 13 < 13 from h) (by omega)
  · intro us w hu hb hS
    have hat : ∀ j (hj : j < sn39_ds.length), (putAll T0 sn39_ds us)[sn39_ds[j]]?.getD undef = us.getD j undef := fun j hj => by
      rw [putAll_at T0 sn39_ds us j hj hu.symm (by decide) (hlt _ (List.getElem_mem hj)), ← List.getD_eq_getElem?_getD]
    have r20 := hS 12 (by decide)
    rw [← hat 12 (by decide)] at r20
    exact hend _ w (by rw [putAll_size]; exact hsz) hb (fun x hx => putAll_far sn39_ds us T0 x hx) r20
noncomputable def sn40_ops : Array Oper := opsW Tryd.f3 40
def sn40_ds : List Nat := [529, 530, 531, 532, 533, 534, 535, 536, 537, 538, 539, 540, 541, 542, 543, 544, 545, 546, 547, 548, 549, 550, 551, 552, 553, 554, 555, 556, 557, 558]
def sn40_S : Nat → Value → World → Prop
  | 0, v, w => SlA [⟨1, 0, 0, 0, 0, 0, 0⟩, ⟨2, 0, 0, 0, 0, 0, 0⟩, ⟨3, 0, 0, 2, 0, 0, 0⟩, ⟨1, 2, 0, 0, 0, 0, 0⟩, ⟨4, 2, 0, 1, 0, 0, 0⟩, ⟨5, 2, 0, 0, 1, 0, 0⟩, ⟨4, 0, 0, 0, 0, 0, 0⟩, ⟨5, 0, 0, 0, 2, 0, 0⟩] (v) w
  | 1, v, w => v = evV ⟨6, 0, 0, 0, 0, 0, 0⟩
  | 2, v, w => v = evV ⟨7, 0, 0, 0, 2, 0, 0⟩
  | 3, v, w => SlA [⟨6, 0, 0, 0, 0, 0, 0⟩, ⟨7, 0, 0, 0, 2, 0, 0⟩] (v) w
  | 4, v, w => SlA [⟨6, 0, 0, 0, 0, 0, 0⟩, ⟨7, 0, 0, 0, 2, 0, 0⟩] (v) w
  | 5, v, w => LsA [[⟨1, 0, 0, 0, 0, 0, 0⟩, ⟨2, 0, 0, 0, 0, 0, 0⟩, ⟨3, 0, 0, 2, 0, 0, 0⟩, ⟨1, 2, 0, 0, 0, 0, 0⟩, ⟨4, 2, 0, 1, 0, 0, 0⟩, ⟨5, 2, 0, 0, 1, 0, 0⟩, ⟨4, 0, 0, 0, 0, 0, 0⟩, ⟨5, 0, 0, 0, 2, 0, 0⟩], [⟨6, 0, 0, 0, 0, 0, 0⟩, ⟨7, 0, 0, 0, 2, 0, 0⟩]] (v) w
  | 6, v, w => SlA [⟨1, 0, 0, 0, 0, 0, 0⟩, ⟨2, 0, 0, 0, 0, 0, 0⟩, ⟨3, 0, 0, 2, 0, 0, 0⟩, ⟨1, 2, 0, 0, 0, 0, 0⟩, ⟨4, 2, 0, 1, 0, 0, 0⟩, ⟨5, 2, 0, 0, 1, 0, 0⟩, ⟨4, 0, 0, 0, 0, 0, 0⟩, ⟨5, 0, 0, 0, 2, 0, 0⟩, ⟨6, 0, 0, 0, 0, 0, 0⟩, ⟨7, 0, 0, 0, 2, 0, 0⟩] (v) w
  | 7, v, w => TrA 3 4 2 [⟨1, 0, 0, 0, 0, 0, 0⟩, ⟨2, 0, 0, 0, 0, 0, 0⟩, ⟨3, 0, 0, 2, 0, 0, 0⟩, ⟨1, 2, 0, 0, 0, 0, 0⟩, ⟨4, 2, 0, 1, 0, 0, 0⟩, ⟨5, 2, 0, 0, 1, 0, 0⟩, ⟨4, 0, 0, 0, 0, 0, 0⟩, ⟨5, 0, 0, 0, 2, 0, 0⟩, ⟨6, 0, 0, 0, 0, 0, 0⟩, ⟨7, 0, 0, 0, 2, 0, 0⟩] (v) w
  | 8, v, w => v = .bool true
  | 9, v, w => v = .bool false
  | 10, v, w => v = .bool false
  | 11, v, w => SlA [⟨1, 0, 0, 0, 0, 0, 0⟩, ⟨2, 0, 0, 0, 0, 0, 0⟩, ⟨3, 0, 0, 2, 0, 0, 0⟩, ⟨1, 2, 0, 0, 0, 0, 0⟩, ⟨4, 2, 0, 1, 0, 0, 0⟩, ⟨5, 2, 0, 0, 1, 0, 0⟩, ⟨4, 0, 0, 0, 0, 0, 0⟩, ⟨5, 0, 0, 0, 2, 0, 0⟩] (v) w
  | 12, v, w => v = evV ⟨7, 0, 0, 0, 2, 0, 0⟩
  | 13, v, w => SlA [⟨7, 0, 0, 0, 2, 0, 0⟩] (v) w
  | 14, v, w => SlA [⟨7, 0, 0, 0, 2, 0, 0⟩] (v) w
  | 15, v, w => LsA [[⟨1, 0, 0, 0, 0, 0, 0⟩, ⟨2, 0, 0, 0, 0, 0, 0⟩, ⟨3, 0, 0, 2, 0, 0, 0⟩, ⟨1, 2, 0, 0, 0, 0, 0⟩, ⟨4, 2, 0, 1, 0, 0, 0⟩, ⟨5, 2, 0, 0, 1, 0, 0⟩, ⟨4, 0, 0, 0, 0, 0, 0⟩, ⟨5, 0, 0, 0, 2, 0, 0⟩], [⟨7, 0, 0, 0, 2, 0, 0⟩]] (v) w
  | 16, v, w => SlA [⟨1, 0, 0, 0, 0, 0, 0⟩, ⟨2, 0, 0, 0, 0, 0, 0⟩, ⟨3, 0, 0, 2, 0, 0, 0⟩, ⟨1, 2, 0, 0, 0, 0, 0⟩, ⟨4, 2, 0, 1, 0, 0, 0⟩, ⟨5, 2, 0, 0, 1, 0, 0⟩, ⟨4, 0, 0, 0, 0, 0, 0⟩, ⟨5, 0, 0, 0, 2, 0, 0⟩, ⟨7, 0, 0, 0, 2, 0, 0⟩] (v) w
  | 17, v, w => v = .bool true
  | 18, v, w => v = .bool false
  | 19, v, w => v = .bool false
  | 20, v, w => v = .bool false
  | 21, v, w => SlA [⟨1, 0, 0, 0, 0, 0, 0⟩, ⟨2, 0, 0, 0, 0, 0, 0⟩, ⟨3, 0, 0, 2, 0, 0, 0⟩, ⟨1, 2, 0, 0, 0, 0, 0⟩, ⟨4, 2, 0, 1, 0, 0, 0⟩, ⟨5, 2, 0, 0, 1, 0, 0⟩, ⟨4, 0, 0, 0, 0, 0, 0⟩, ⟨5, 0, 0, 0, 2, 0, 0⟩] (v) w
  | 22, v, w => v = evV ⟨10, 0, 0, 0, 0, 0, 5⟩
  | 23, v, w => SlA [⟨10, 0, 0, 0, 0, 0, 5⟩] (v) w
  | 24, v, w => SlA [⟨10, 0, 0, 0, 0, 0, 5⟩] (v) w
  | 25, v, w => LsA [[⟨1, 0, 0, 0, 0, 0, 0⟩, ⟨2, 0, 0, 0, 0, 0, 0⟩, ⟨3, 0, 0, 2, 0, 0, 0⟩, ⟨1, 2, 0, 0, 0, 0, 0⟩, ⟨4, 2, 0, 1, 0, 0, 0⟩, ⟨5, 2, 0, 0, 1, 0, 0⟩, ⟨4, 0, 0, 0, 0, 0, 0⟩, ⟨5, 0, 0, 0, 2, 0, 0⟩], [⟨10, 0, 0, 0, 0, 0, 5⟩]] (v) w
  | 26, v, w => SlA [⟨1, 0, 0, 0, 0, 0, 0⟩, ⟨2, 0, 0, 0, 0, 0, 0⟩, ⟨3, 0, 0, 2, 0, 0, 0⟩, ⟨1, 2, 0, 0, 0, 0, 0⟩, ⟨4, 2, 0, 1, 0, 0, 0⟩, ⟨5, 2, 0, 0, 1, 0, 0⟩, ⟨4, 0, 0, 0, 0, 0, 0⟩, ⟨5, 0, 0, 0, 2, 0, 0⟩, ⟨10, 0, 0, 0, 0, 0, 5⟩] (v) w
  | 27, v, w => v = .bool true
  | 28, v, w => v = .bool false
  | 29, v, w => v = .bool false
  | _ + 30, _, _ => False
theorem sn40_mono (i : Nat) (v : Value) (w w' : World) (b : Below w.heap.size w w') (h : sn40_S i v w) : sn40_S i v w' := by
  match i, h with
  | 0, h => exact SlA.stays h b
  | 1, h => exact h
  | 2, h => exact h
  | 3, h => exact SlA.stays h b
  | 4, h => exact SlA.stays h b
  | 5, h => exact LsA.stays h b
  | 6, h => exact SlA.stays h b
  | 7, h => exact TrA.stays h b
  | 8, h => exact h
  | 9, h => exact h
  | 10, h => exact h
  | 11, h => exact SlA.stays h b
  | 12, h => exact h
  | 13, h => exact SlA.stays h b
  | 14, h => exact SlA.stays h b
  | 15, h => exact LsA.stays h b
  | 16, h => exact SlA.stays h b
  | 17, h => exact h
  | 18, h => exact h
  | 19, h => exact h
  | 20, h => exact h
  | 21, h => exact SlA.stays h b
  | 22, h => exact h
  | 23, h => exact SlA.stays h b
  | 24, h => exact SlA.stays h b
  | 25, h => exact LsA.stays h b
  | 26, h => exact SlA.stays h b
  | 27, h => exact h
  | 28, h => exact h
  | 29, h => exact h
set_option maxRecDepth 100000 in
set_option maxHeartbeats 4000000 in
theorem sn40 {Tb : World → Prop} (HC : CheckC Tb) {id : Nat} {ops : Array Oper} (hops : ops = sn40_ops) (T0 : Array Value) (hsz : T0.size = 726) (W : World) (ht : Tb W) (p20 : SlA [⟨1, 0, 0, 0, 0, 0, 0⟩, ⟨2, 0, 0, 0, 0, 0, 0⟩, ⟨3, 0, 0, 2, 0, 0, 0⟩, ⟨1, 2, 0, 0, 0, 0, 0⟩, ⟨4, 2, 0, 1, 0, 0, 0⟩, ⟨5, 2, 0, 0, 1, 0, 0⟩, ⟨4, 0, 0, 0, 0, 0, 0⟩, ⟨5, 0, 0, 0, 2, 0, 0⟩] (T0[20]?.getD undef) W) {Q : Exit → Act → World → Prop}
    (hend : ∀ (T : Array Value) (w : World), T.size = 726 → Below W.heap.size W w → (∀ x, x ∉ sn40_ds → T[x]? = T0[x]?) → T[558]?.getD undef = .bool false → Q .normal ⟨T, []⟩ w) : (Code.region id ops false).wp Tryd.prog Q ⟨T0, []⟩ W := by
  subst hops
  have hos : sn40_ops.size = 30 := by kernel_rfl
  have hga : (List.range 30).all (fun i => match sn40_ops[i]? with | some o => o.guard == ([none, none, none, none, none, none, none, none, none, none, none, some (10, false), some (10, false), some (10, false), some (10, false), some (10, false), some (10, false), some (10, false), some (10, false), none, none, some (20, false), some (20, false), some (20, false), some (20, false), some (20, false), some (20, false), some (20, false), some (20, false), none] : List (Option (Nat × Bool))).getD i none | none => false) = true := by kernel_rfl
  have q20 : ∀ (a : Act) (w : World), (∀ t, t ∉ sn40_ds → a.tmps[t]?.getD undef = T0[t]?.getD undef) → Below W.heap.size W w → SlA [⟨1, 0, 0, 0, 0, 0, 0⟩, ⟨2, 0, 0, 0, 0, 0, 0⟩, ⟨3, 0, 0, 2, 0, 0, 0⟩, ⟨1, 2, 0, 0, 0, 0, 0⟩, ⟨4, 2, 0, 1, 0, 0, 0⟩, ⟨5, 2, 0, 0, 1, 0, 0⟩, ⟨4, 0, 0, 0, 0, 0, 0⟩, ⟨5, 0, 0, 0, 2, 0, 0⟩] (a.tmps[20]?.getD undef) w := fun a w hT hb => by rw [hT 20 (by decide)]; exact SlA.stays p20 hb
  have hlt : ∀ x ∈ sn40_ds, x < T0.size := fun x hx => by
    have hall : (sn40_ds.all fun d => decide (d < 726)) = true := by decide
    have := List.all_eq_true.1 hall x hx
    simp only [decide_eq_true_eq] at this
    omega
  refine wp_region_kindsS sn40_S sn40_ds W T0 (by decide) hlt (by kernel_rfl) (fun i o j want ho hgd => ?_) sn40_mono ?_ ?_
  · have hi : i < 30 := by rw [← hos]; exact (Array.getElem?_eq_some_iff.1 ho).1
    have h1 := List.all_eq_true.1 hga i (by simpa using hi)
    rw [ho] at h1
    simp only [hgd, beq_iff_eq] at h1
    match i, hi with
    | 0, _ => cases h1
    | 1, _ => cases h1
    | 2, _ => cases h1
    | 3, _ => cases h1
    | 4, _ => cases h1
    | 5, _ => cases h1
    | 6, _ => cases h1
    | 7, _ => cases h1
    | 8, _ => cases h1
    | 9, _ => cases h1
    | 10, _ => cases h1
    | 11, _ => obtain ⟨rfl, rfl⟩ := Prod.mk.inj (Option.some.inj h1); exact fun v w h => h
    | 12, _ => obtain ⟨rfl, rfl⟩ := Prod.mk.inj (Option.some.inj h1); exact fun v w h => h
    | 13, _ => obtain ⟨rfl, rfl⟩ := Prod.mk.inj (Option.some.inj h1); exact fun v w h => h
    | 14, _ => obtain ⟨rfl, rfl⟩ := Prod.mk.inj (Option.some.inj h1); exact fun v w h => h
    | 15, _ => obtain ⟨rfl, rfl⟩ := Prod.mk.inj (Option.some.inj h1); exact fun v w h => h
    | 16, _ => obtain ⟨rfl, rfl⟩ := Prod.mk.inj (Option.some.inj h1); exact fun v w h => h
    | 17, _ => obtain ⟨rfl, rfl⟩ := Prod.mk.inj (Option.some.inj h1); exact fun v w h => h
    | 18, _ => obtain ⟨rfl, rfl⟩ := Prod.mk.inj (Option.some.inj h1); exact fun v w h => h
    | 19, _ => cases h1
    | 20, _ => cases h1
    | 21, _ => obtain ⟨rfl, rfl⟩ := Prod.mk.inj (Option.some.inj h1); exact fun v w h => h
    | 22, _ => obtain ⟨rfl, rfl⟩ := Prod.mk.inj (Option.some.inj h1); exact fun v w h => h
    | 23, _ => obtain ⟨rfl, rfl⟩ := Prod.mk.inj (Option.some.inj h1); exact fun v w h => h
    | 24, _ => obtain ⟨rfl, rfl⟩ := Prod.mk.inj (Option.some.inj h1); exact fun v w h => h
    | 25, _ => obtain ⟨rfl, rfl⟩ := Prod.mk.inj (Option.some.inj h1); exact fun v w h => h
    | 26, _ => obtain ⟨rfl, rfl⟩ := Prod.mk.inj (Option.some.inj h1); exact fun v w h => h
    | 27, _ => obtain ⟨rfl, rfl⟩ := Prod.mk.inj (Option.some.inj h1); exact fun v w h => h
    | 28, _ => obtain ⟨rfl, rfl⟩ := Prod.mk.inj (Option.some.inj h1); exact fun v w h => h
    | 29, _ => cases h1
    | i + 30, h => exact absurd (show i + 30 < 30 from h) (by omega)
  · intro i o ho hi a w hT hW hb K hK
    match i, hi with
    | 0, _ =>
      exact v_move 20 (opAtW ho (by kernel_rfl)) rfl (hK _ _ (Below.refl _ _) (q20 a w hT hb))
    | 1, _ =>
      exact o_ev (opAtW ho (by kernel_rfl)) (ev_any (6) (0) (0) w) (fun w' hb' => hK _ w' hb' rfl)
    | 2, _ =>
      exact o_ev (opAtW ho (by kernel_rfl)) (ev_any (7) (0) (2) w) (fun w' hb' => hK _ w' hb' rfl)
    | 3, _ =>
      have p530 : a.tmps[530]?.getD undef = evV ⟨6, 0, 0, 0, 0, 0, 0⟩ := (hW 1 (by decide))
      have p531 : a.tmps[531]?.getD undef = evV ⟨7, 0, 0, 0, 2, 0, 0⟩ := (hW 2 (by decide))
      exact n_slice [⟨6, 0, 0, 0, 0, 0, 0⟩, ⟨7, 0, 0, 0, 2, 0, 0⟩] #[(0, .tmp 530), (1, .tmp 531)] (opAtW ho (by kernel_rfl)) rfl (by kernel_rfl) (by decide) (by decide) (by simp [Act.eval, p530, p531]) (fun v w' hb' hs => hK v w' hb' hs)
    | 4, _ =>
      exact n_many 532 (opAtW ho (by kernel_rfl)) (hW 3 (by decide)) (fun u w' hb' hs => hK u w' hb' hs)
    | 5, _ =>
      have p529 : SlA [⟨1, 0, 0, 0, 0, 0, 0⟩, ⟨2, 0, 0, 0, 0, 0, 0⟩, ⟨3, 0, 0, 2, 0, 0, 0⟩, ⟨1, 2, 0, 0, 0, 0, 0⟩, ⟨4, 2, 0, 1, 0, 0, 0⟩, ⟨5, 2, 0, 0, 1, 0, 0⟩, ⟨4, 0, 0, 0, 0, 0, 0⟩, ⟨5, 0, 0, 0, 2, 0, 0⟩] (a.tmps[529]?.getD undef) w := (hW 0 (by decide))
      have p533 : SlA [⟨6, 0, 0, 0, 0, 0, 0⟩, ⟨7, 0, 0, 0, 2, 0, 0⟩] (a.tmps[533]?.getD undef) w := (hW 4 (by decide))
      refine n_lists [[⟨1, 0, 0, 0, 0, 0, 0⟩, ⟨2, 0, 0, 0, 0, 0, 0⟩, ⟨3, 0, 0, 2, 0, 0, 0⟩, ⟨1, 2, 0, 0, 0, 0, 0⟩, ⟨4, 2, 0, 1, 0, 0, 0⟩, ⟨5, 2, 0, 0, 1, 0, 0⟩, ⟨4, 0, 0, 0, 0, 0, 0⟩, ⟨5, 0, 0, 0, 2, 0, 0⟩], [⟨6, 0, 0, 0, 0, 0, 0⟩, ⟨7, 0, 0, 0, 2, 0, 0⟩]] [a.tmps[529]?.getD undef, a.tmps[533]?.getD undef] #[(0, .tmp 529), (1, .tmp 533)] (opAtW ho (by kernel_rfl)) rfl rfl (by decide) (by decide) (fun j h => ?_) (by simp [Act.eval]) (fun v w' hb' hs => hK v w' hb' hs)
      match j, h with
      | 0, _ => exact p529
      | 1, _ => exact p533
      | j + 2, h => exact absurd h (by simp)
    | 6, _ =>
      exact n_join 534 [⟨1, 0, 0, 0, 0, 0, 0⟩, ⟨2, 0, 0, 0, 0, 0, 0⟩, ⟨3, 0, 0, 2, 0, 0, 0⟩, ⟨1, 2, 0, 0, 0, 0, 0⟩, ⟨4, 2, 0, 1, 0, 0, 0⟩, ⟨5, 2, 0, 0, 1, 0, 0⟩, ⟨4, 0, 0, 0, 0, 0, 0⟩, ⟨5, 0, 0, 0, 2, 0, 0⟩, ⟨6, 0, 0, 0, 0, 0, 0⟩, ⟨7, 0, 0, 0, 2, 0, 0⟩] (opAtW ho (by kernel_rfl)) (hW 5 (by decide)) (by decide) (by decide) rfl (fun u w' hb' hs => hK u w' hb' hs)
    | 7, _ =>
      exact n_over 535 (opAtW ho (by kernel_rfl)) (hW 6 (by decide)) (fun u w' hb' hs => hK u w' hb' hs)
    | 8, _ =>
      exact n_fine HC (HC.below W w ht hb) 536 true (opAtW ho (by kernel_rfl)) (hW 7 (by decide)) (by decide) (by decide) (by decide) (by decide) (by kernel_rfl) (fun w' hb' => hK _ w' hb' rfl)
    | 9, _ =>
      exact u_notT 537 (opAtW ho (by kernel_rfl)) (hW 8 (by decide)) (hK _ _ (Below.refl _ _) rfl)
    | 10, _ =>
      exact v_move 538 (opAtW ho (by kernel_rfl)) (hW 9 (by decide)) (hK _ _ (Below.refl _ _) rfl)
    | 11, _ =>
      exact v_move 20 (opAtW ho (by kernel_rfl)) rfl (hK _ _ (Below.refl _ _) (q20 a w hT hb))
    | 12, _ =>
      exact o_ev (opAtW ho (by kernel_rfl)) (ev_any (7) (0) (2) w) (fun w' hb' => hK _ w' hb' rfl)
    | 13, _ =>
      have p541 : a.tmps[541]?.getD undef = evV ⟨7, 0, 0, 0, 2, 0, 0⟩ := (hW 12 (by decide))
      exact n_slice [⟨7, 0, 0, 0, 2, 0, 0⟩] #[(0, .tmp 541)] (opAtW ho (by kernel_rfl)) rfl (by kernel_rfl) (by decide) (by decide) (by simp [Act.eval, p541]) (fun v w' hb' hs => hK v w' hb' hs)
    | 14, _ =>
      exact n_many 542 (opAtW ho (by kernel_rfl)) (hW 13 (by decide)) (fun u w' hb' hs => hK u w' hb' hs)
    | 15, _ =>
      have p540 : SlA [⟨1, 0, 0, 0, 0, 0, 0⟩, ⟨2, 0, 0, 0, 0, 0, 0⟩, ⟨3, 0, 0, 2, 0, 0, 0⟩, ⟨1, 2, 0, 0, 0, 0, 0⟩, ⟨4, 2, 0, 1, 0, 0, 0⟩, ⟨5, 2, 0, 0, 1, 0, 0⟩, ⟨4, 0, 0, 0, 0, 0, 0⟩, ⟨5, 0, 0, 0, 2, 0, 0⟩] (a.tmps[540]?.getD undef) w := (hW 11 (by decide))
      have p543 : SlA [⟨7, 0, 0, 0, 2, 0, 0⟩] (a.tmps[543]?.getD undef) w := (hW 14 (by decide))
      refine n_lists [[⟨1, 0, 0, 0, 0, 0, 0⟩, ⟨2, 0, 0, 0, 0, 0, 0⟩, ⟨3, 0, 0, 2, 0, 0, 0⟩, ⟨1, 2, 0, 0, 0, 0, 0⟩, ⟨4, 2, 0, 1, 0, 0, 0⟩, ⟨5, 2, 0, 0, 1, 0, 0⟩, ⟨4, 0, 0, 0, 0, 0, 0⟩, ⟨5, 0, 0, 0, 2, 0, 0⟩], [⟨7, 0, 0, 0, 2, 0, 0⟩]] [a.tmps[540]?.getD undef, a.tmps[543]?.getD undef] #[(0, .tmp 540), (1, .tmp 543)] (opAtW ho (by kernel_rfl)) rfl rfl (by decide) (by decide) (fun j h => ?_) (by simp [Act.eval]) (fun v w' hb' hs => hK v w' hb' hs)
      match j, h with
      | 0, _ => exact p540
      | 1, _ => exact p543
      | j + 2, h => exact absurd h (by simp)
    | 16, _ =>
      exact n_join 544 [⟨1, 0, 0, 0, 0, 0, 0⟩, ⟨2, 0, 0, 0, 0, 0, 0⟩, ⟨3, 0, 0, 2, 0, 0, 0⟩, ⟨1, 2, 0, 0, 0, 0, 0⟩, ⟨4, 2, 0, 1, 0, 0, 0⟩, ⟨5, 2, 0, 0, 1, 0, 0⟩, ⟨4, 0, 0, 0, 0, 0, 0⟩, ⟨5, 0, 0, 0, 2, 0, 0⟩, ⟨7, 0, 0, 0, 2, 0, 0⟩] (opAtW ho (by kernel_rfl)) (hW 15 (by decide)) (by decide) (by decide) rfl (fun u w' hb' hs => hK u w' hb' hs)
    | 17, _ =>
      exact n_bad HC (HC.below W w ht hb) 545 true (opAtW ho (by kernel_rfl)) (hW 16 (by decide)) (by decide) (by decide) (by kernel_rfl) (fun w' hb' => hK _ w' hb' rfl)
    | 18, _ =>
      exact u_notT 546 (opAtW ho (by kernel_rfl)) (hW 17 (by decide)) (hK _ _ (Below.refl _ _) rfl)
    | 19, _ =>
      exact v_orF 539 547 (opAtW ho (by kernel_rfl)) (hW 10 (by decide)) (hW 18 (by decide)) (hK _ _ (Below.refl _ _) rfl)
    | 20, _ =>
      exact v_move 548 (opAtW ho (by kernel_rfl)) (hW 19 (by decide)) (hK _ _ (Below.refl _ _) rfl)
    | 21, _ =>
      exact v_move 20 (opAtW ho (by kernel_rfl)) rfl (hK _ _ (Below.refl _ _) (q20 a w hT hb))
    | 22, _ =>
      exact o_why (opAtW ho (by kernel_rfl)) (why_any 5 0 w) (fun w' hb' => hK _ w' hb' rfl)
    | 23, _ =>
      have p551 : a.tmps[551]?.getD undef = evV ⟨10, 0, 0, 0, 0, 0, 5⟩ := (hW 22 (by decide))
      exact n_slice [⟨10, 0, 0, 0, 0, 0, 5⟩] #[(0, .tmp 551)] (opAtW ho (by kernel_rfl)) rfl (by kernel_rfl) (by decide) (by decide) (by simp [Act.eval, p551]) (fun v w' hb' hs => hK v w' hb' hs)
    | 24, _ =>
      exact n_many 552 (opAtW ho (by kernel_rfl)) (hW 23 (by decide)) (fun u w' hb' hs => hK u w' hb' hs)
    | 25, _ =>
      have p550 : SlA [⟨1, 0, 0, 0, 0, 0, 0⟩, ⟨2, 0, 0, 0, 0, 0, 0⟩, ⟨3, 0, 0, 2, 0, 0, 0⟩, ⟨1, 2, 0, 0, 0, 0, 0⟩, ⟨4, 2, 0, 1, 0, 0, 0⟩, ⟨5, 2, 0, 0, 1, 0, 0⟩, ⟨4, 0, 0, 0, 0, 0, 0⟩, ⟨5, 0, 0, 0, 2, 0, 0⟩] (a.tmps[550]?.getD undef) w := (hW 21 (by decide))
      have p553 : SlA [⟨10, 0, 0, 0, 0, 0, 5⟩] (a.tmps[553]?.getD undef) w := (hW 24 (by decide))
      refine n_lists [[⟨1, 0, 0, 0, 0, 0, 0⟩, ⟨2, 0, 0, 0, 0, 0, 0⟩, ⟨3, 0, 0, 2, 0, 0, 0⟩, ⟨1, 2, 0, 0, 0, 0, 0⟩, ⟨4, 2, 0, 1, 0, 0, 0⟩, ⟨5, 2, 0, 0, 1, 0, 0⟩, ⟨4, 0, 0, 0, 0, 0, 0⟩, ⟨5, 0, 0, 0, 2, 0, 0⟩], [⟨10, 0, 0, 0, 0, 0, 5⟩]] [a.tmps[550]?.getD undef, a.tmps[553]?.getD undef] #[(0, .tmp 550), (1, .tmp 553)] (opAtW ho (by kernel_rfl)) rfl rfl (by decide) (by decide) (fun j h => ?_) (by simp [Act.eval]) (fun v w' hb' hs => hK v w' hb' hs)
      match j, h with
      | 0, _ => exact p550
      | 1, _ => exact p553
      | j + 2, h => exact absurd h (by simp)
    | 26, _ =>
      exact n_join 554 [⟨1, 0, 0, 0, 0, 0, 0⟩, ⟨2, 0, 0, 0, 0, 0, 0⟩, ⟨3, 0, 0, 2, 0, 0, 0⟩, ⟨1, 2, 0, 0, 0, 0, 0⟩, ⟨4, 2, 0, 1, 0, 0, 0⟩, ⟨5, 2, 0, 0, 1, 0, 0⟩, ⟨4, 0, 0, 0, 0, 0, 0⟩, ⟨5, 0, 0, 0, 2, 0, 0⟩, ⟨10, 0, 0, 0, 0, 0, 5⟩] (opAtW ho (by kernel_rfl)) (hW 25 (by decide)) (by decide) (by decide) rfl (fun u w' hb' hs => hK u w' hb' hs)
    | 27, _ =>
      exact n_bad HC (HC.below W w ht hb) 555 true (opAtW ho (by kernel_rfl)) (hW 26 (by decide)) (by decide) (by decide) (by kernel_rfl) (fun w' hb' => hK _ w' hb' rfl)
    | 28, _ =>
      exact u_notT 556 (opAtW ho (by kernel_rfl)) (hW 27 (by decide)) (hK _ _ (Below.refl _ _) rfl)
    | 29, _ =>
      exact v_orF 549 557 (opAtW ho (by kernel_rfl)) (hW 20 (by decide)) (hW 28 (by decide)) (hK _ _ (Below.refl _ _) rfl)
    | i + 30, h => exact absurd (show i + 30 < 30 from h) (by omega)
  · intro us w hu hb hS
    have hat : ∀ j (hj : j < sn40_ds.length), (putAll T0 sn40_ds us)[sn40_ds[j]]?.getD undef = us.getD j undef := fun j hj => by
      rw [putAll_at T0 sn40_ds us j hj hu.symm (by decide) (hlt _ (List.getElem_mem hj)), ← List.getD_eq_getElem?_getD]
    have r558 := hS 29 (by decide)
    rw [← hat 29 (by decide)] at r558
    exact hend _ w (by rw [putAll_size]; exact hsz) hb (fun x hx => putAll_far sn40_ds us T0 x hx) r558
noncomputable def sn44_ops : Array Oper := opsW Tryd.f3 44
def sn44_ds : List Nat := [561, 562, 563, 564, 565, 566, 567, 568, 22]
def sn44_S : Nat → Value → World → Prop
  | 0, v, w => v = evV ⟨1, 0, 0, 0, 0, 0, 0⟩
  | 1, v, w => v = evV ⟨4, 0, 0, 0, 0, 0, 0⟩
  | 2, v, w => v = evV ⟨4, 0, 0, 1, 0, 0, 0⟩
  | 3, v, w => v = evV ⟨5, 0, 0, 0, 1, 0, 0⟩
  | 4, v, w => v = evV ⟨7, 0, 0, 0, 1, 0, 0⟩
  | 5, v, w => v = evV ⟨8, 0, 0, 0, 0, 0, 0⟩
  | 6, v, w => SlA [⟨1, 0, 0, 0, 0, 0, 0⟩, ⟨4, 0, 0, 0, 0, 0, 0⟩, ⟨4, 0, 0, 1, 0, 0, 0⟩, ⟨5, 0, 0, 0, 1, 0, 0⟩, ⟨7, 0, 0, 0, 1, 0, 0⟩, ⟨8, 0, 0, 0, 0, 0, 0⟩] (v) w
  | 7, v, w => SlA [⟨1, 0, 0, 0, 0, 0, 0⟩, ⟨4, 0, 0, 0, 0, 0, 0⟩, ⟨4, 0, 0, 1, 0, 0, 0⟩, ⟨5, 0, 0, 0, 1, 0, 0⟩, ⟨7, 0, 0, 0, 1, 0, 0⟩, ⟨8, 0, 0, 0, 0, 0, 0⟩] (v) w
  | 8, v, w => SlA [⟨1, 0, 0, 0, 0, 0, 0⟩, ⟨4, 0, 0, 0, 0, 0, 0⟩, ⟨4, 0, 0, 1, 0, 0, 0⟩, ⟨5, 0, 0, 0, 1, 0, 0⟩, ⟨7, 0, 0, 0, 1, 0, 0⟩, ⟨8, 0, 0, 0, 0, 0, 0⟩] (v) w
  | _ + 9, _, _ => False
theorem sn44_mono (i : Nat) (v : Value) (w w' : World) (b : Below w.heap.size w w') (h : sn44_S i v w) : sn44_S i v w' := by
  match i, h with
  | 0, h => exact h
  | 1, h => exact h
  | 2, h => exact h
  | 3, h => exact h
  | 4, h => exact h
  | 5, h => exact h
  | 6, h => exact SlA.stays h b
  | 7, h => exact SlA.stays h b
  | 8, h => exact SlA.stays h b
set_option maxRecDepth 100000 in
set_option maxHeartbeats 4000000 in
theorem sn44 {Tb : World → Prop} (HC : CheckC Tb) {id : Nat} {ops : Array Oper} (hops : ops = sn44_ops) (T0 : Array Value) (hsz : T0.size = 726) (W : World) (ht : Tb W) (p6 : PtE ⟨1, 0, 0, 0, 0, 0, 0⟩ (T0[6]?.getD undef) W) (p9 : PtE ⟨4, 0, 0, 0, 0, 0, 0⟩ (T0[9]?.getD undef) W) {Q : Exit → Act → World → Prop}
    (hend : ∀ (T : Array Value) (w : World), T.size = 726 → Below W.heap.size W w → (∀ x, x ∉ sn44_ds → T[x]? = T0[x]?) → SlA [⟨1, 0, 0, 0, 0, 0, 0⟩, ⟨4, 0, 0, 0, 0, 0, 0⟩, ⟨4, 0, 0, 1, 0, 0, 0⟩, ⟨5, 0, 0, 0, 1, 0, 0⟩, ⟨7, 0, 0, 0, 1, 0, 0⟩, ⟨8, 0, 0, 0, 0, 0, 0⟩] (T[22]?.getD undef) w → Q .normal ⟨T, []⟩ w) : (Code.region id ops true).wp Tryd.prog Q ⟨T0, []⟩ W := by
  subst hops
  have hos : sn44_ops.size = 9 := by kernel_rfl
  have hga : (List.range 9).all (fun i => match sn44_ops[i]? with | some o => o.guard == ([none, none, none, none, none, none, none, none, none] : List (Option (Nat × Bool))).getD i none | none => false) = true := by kernel_rfl
  have q6 : ∀ (a : Act) (w : World), (∀ t, t ∉ sn44_ds → a.tmps[t]?.getD undef = T0[t]?.getD undef) → Below W.heap.size W w → PtE ⟨1, 0, 0, 0, 0, 0, 0⟩ (a.tmps[6]?.getD undef) w := fun a w hT hb => by rw [hT 6 (by decide)]; exact PtE.stays p6 hb
  have q9 : ∀ (a : Act) (w : World), (∀ t, t ∉ sn44_ds → a.tmps[t]?.getD undef = T0[t]?.getD undef) → Below W.heap.size W w → PtE ⟨4, 0, 0, 0, 0, 0, 0⟩ (a.tmps[9]?.getD undef) w := fun a w hT hb => by rw [hT 9 (by decide)]; exact PtE.stays p9 hb
  have hlt : ∀ x ∈ sn44_ds, x < T0.size := fun x hx => by
    have hall : (sn44_ds.all fun d => decide (d < 726)) = true := by decide
    have := List.all_eq_true.1 hall x hx
    simp only [decide_eq_true_eq] at this
    omega
  refine wp_region_kinds3 sn44_S sn44_ds W T0 (by decide) hlt (by kernel_rfl) (by kernel_rfl) (fun i o j want ho hgd => ?_) sn44_mono ?_ ?_
  · have hi : i < 9 := by rw [← hos]; exact (Array.getElem?_eq_some_iff.1 ho).1
    have h1 := List.all_eq_true.1 hga i (by simpa using hi)
    rw [ho] at h1
    simp only [hgd, beq_iff_eq] at h1
    match i, hi with
    | 0, _ => cases h1
    | 1, _ => cases h1
    | 2, _ => cases h1
    | 3, _ => cases h1
    | 4, _ => cases h1
    | 5, _ => cases h1
    | 6, _ => cases h1
    | 7, _ => cases h1
    | 8, _ => cases h1
    | i + 9, h => exact absurd (show i + 9 < 9 from h) (by omega)
  · intro i o ho hi a w hT hW hb K hK
    match i, hi with
    | 0, _ =>
      exact n_load 6 (opAtW ho (by kernel_rfl)) (q6 a w hT hb) (hK _ _ (Below.refl _ _) rfl)
    | 1, _ =>
      exact n_load 9 (opAtW ho (by kernel_rfl)) (q9 a w hT hb) (hK _ _ (Below.refl _ _) rfl)
    | 2, _ =>
      exact o_ev (opAtW ho (by kernel_rfl)) (ev_any (4) (1) (0) w) (fun w' hb' => hK _ w' hb' rfl)
    | 3, _ =>
      exact o_ev (opAtW ho (by kernel_rfl)) (ev_any (5) (0) (1) w) (fun w' hb' => hK _ w' hb' rfl)
    | 4, _ =>
      exact o_ev (opAtW ho (by kernel_rfl)) (ev_any (7) (0) (1) w) (fun w' hb' => hK _ w' hb' rfl)
    | 5, _ =>
      exact o_ev (opAtW ho (by kernel_rfl)) (ev_any (8) (0) (0) w) (fun w' hb' => hK _ w' hb' rfl)
    | 6, _ =>
      have p561 : a.tmps[561]?.getD undef = evV ⟨1, 0, 0, 0, 0, 0, 0⟩ := (hW 0 (by kernel_rfl))
      have p562 : a.tmps[562]?.getD undef = evV ⟨4, 0, 0, 0, 0, 0, 0⟩ := (hW 1 (by kernel_rfl))
      have p563 : a.tmps[563]?.getD undef = evV ⟨4, 0, 0, 1, 0, 0, 0⟩ := (hW 2 (by kernel_rfl))
      have p564 : a.tmps[564]?.getD undef = evV ⟨5, 0, 0, 0, 1, 0, 0⟩ := (hW 3 (by kernel_rfl))
      have p565 : a.tmps[565]?.getD undef = evV ⟨7, 0, 0, 0, 1, 0, 0⟩ := (hW 4 (by kernel_rfl))
      have p566 : a.tmps[566]?.getD undef = evV ⟨8, 0, 0, 0, 0, 0, 0⟩ := (hW 5 (by kernel_rfl))
      exact n_slice [⟨1, 0, 0, 0, 0, 0, 0⟩, ⟨4, 0, 0, 0, 0, 0, 0⟩, ⟨4, 0, 0, 1, 0, 0, 0⟩, ⟨5, 0, 0, 0, 1, 0, 0⟩, ⟨7, 0, 0, 0, 1, 0, 0⟩, ⟨8, 0, 0, 0, 0, 0, 0⟩] #[(0, .tmp 561), (1, .tmp 562), (2, .tmp 563), (3, .tmp 564), (4, .tmp 565), (5, .tmp 566)] (opAtW ho (by kernel_rfl)) rfl (by kernel_rfl) (by decide) (by decide) (by simp [Act.eval, p561, p562, p563, p564, p565, p566]) (fun v w' hb' hs => hK v w' hb' hs)
    | 7, _ =>
      exact n_many 567 (opAtW ho (by kernel_rfl)) (hW 6 (by kernel_rfl)) (fun u w' hb' hs => hK u w' hb' hs)
    | 8, _ =>
      exact v_assign 568 (opAtW ho (by kernel_rfl)) rfl (hK _ _ (Below.refl _ _) (hW 7 (by kernel_rfl)))
    | i + 9, h => exact absurd (show i + 9 < 9 from h) (by omega)
  · intro us w hu hb hS
    have hat : ∀ j (hj : j < sn44_ds.length), (putAll T0 sn44_ds us)[sn44_ds[j]]?.getD undef = us.getD j undef := fun j hj => by
      rw [putAll_at T0 sn44_ds us j hj hu.symm (by decide) (hlt _ (List.getElem_mem hj)), ← List.getD_eq_getElem?_getD]
    have r22 := hS 8 (by decide)
    rw [← hat 8 (by decide)] at r22
    exact hend _ w (by rw [putAll_size]; exact hsz) hb (fun x hx => putAll_far sn44_ds us T0 x hx) r22
end Go.Proofs.YtjennlkindbpoaaDoor
/-
  FOR ShapeNames: its regions 45, 47, by kinds. Laid by gen/gen_sn.py. Conditions: CheckC.
-/
namespace Go.Proofs.YtjennlkindbpoaaDoor
set_option maxRecDepth 100000
open Go.RowKit Go.Deep
set_option linter.unusedVariables false

noncomputable def sn45_ops : Array Oper := opsW Tryd.f3 45
def sn45_ds : List Nat := [569, 570, 571, 572, 573, 574, 575, 576, 577, 578, 579, 580, 581, 582, 583, 584, 585, 586, 587, 588, 589, 590, 591, 592, 593, 594, 595, 596, 597, 598, 599, 600, 601, 602, 603, 604, 605, 606, 607, 608, 609, 610, 611, 612, 613, 614, 615, 616, 617, 618, 619, 620, 621, 622, 623, 624, 625, 626, 627, 628, 629, 630, 631, 632, 633, 634]
def sn45_S : Nat → Value → World → Prop
  | 0, v, w => SlA [⟨1, 0, 0, 0, 0, 0, 0⟩, ⟨4, 0, 0, 0, 0, 0, 0⟩, ⟨4, 0, 0, 1, 0, 0, 0⟩, ⟨5, 0, 0, 0, 1, 0, 0⟩, ⟨7, 0, 0, 0, 1, 0, 0⟩, ⟨8, 0, 0, 0, 0, 0, 0⟩] (v) w
  | 1, v, w => v = evV ⟨9, 0, 0, 0, 0, 0, 0⟩
  | 2, v, w => SlA [⟨9, 0, 0, 0, 0, 0, 0⟩] (v) w
  | 3, v, w => SlA [⟨9, 0, 0, 0, 0, 0, 0⟩] (v) w
  | 4, v, w => LsA [[⟨1, 0, 0, 0, 0, 0, 0⟩, ⟨4, 0, 0, 0, 0, 0, 0⟩, ⟨4, 0, 0, 1, 0, 0, 0⟩, ⟨5, 0, 0, 0, 1, 0, 0⟩, ⟨7, 0, 0, 0, 1, 0, 0⟩, ⟨8, 0, 0, 0, 0, 0, 0⟩], [⟨9, 0, 0, 0, 0, 0, 0⟩]] (v) w
  | 5, v, w => SlA [⟨1, 0, 0, 0, 0, 0, 0⟩, ⟨4, 0, 0, 0, 0, 0, 0⟩, ⟨4, 0, 0, 1, 0, 0, 0⟩, ⟨5, 0, 0, 0, 1, 0, 0⟩, ⟨7, 0, 0, 0, 1, 0, 0⟩, ⟨8, 0, 0, 0, 0, 0, 0⟩, ⟨9, 0, 0, 0, 0, 0, 0⟩] (v) w
  | 6, v, w => v = .bool true
  | 7, v, w => v = .bool false
  | 8, v, w => v = .bool false
  | 9, v, w => SlA [⟨1, 0, 0, 0, 0, 0, 0⟩, ⟨4, 0, 0, 0, 0, 0, 0⟩, ⟨4, 0, 0, 1, 0, 0, 0⟩, ⟨5, 0, 0, 0, 1, 0, 0⟩, ⟨7, 0, 0, 0, 1, 0, 0⟩, ⟨8, 0, 0, 0, 0, 0, 0⟩] (v) w
  | 10, v, w => v = evV ⟨8, 0, 0, 0, 0, 0, 0⟩
  | 11, v, w => SlA [⟨8, 0, 0, 0, 0, 0, 0⟩] (v) w
  | 12, v, w => SlA [⟨8, 0, 0, 0, 0, 0, 0⟩] (v) w
  | 13, v, w => LsA [[⟨1, 0, 0, 0, 0, 0, 0⟩, ⟨4, 0, 0, 0, 0, 0, 0⟩, ⟨4, 0, 0, 1, 0, 0, 0⟩, ⟨5, 0, 0, 0, 1, 0, 0⟩, ⟨7, 0, 0, 0, 1, 0, 0⟩, ⟨8, 0, 0, 0, 0, 0, 0⟩], [⟨8, 0, 0, 0, 0, 0, 0⟩]] (v) w
  | 14, v, w => SlA [⟨1, 0, 0, 0, 0, 0, 0⟩, ⟨4, 0, 0, 0, 0, 0, 0⟩, ⟨4, 0, 0, 1, 0, 0, 0⟩, ⟨5, 0, 0, 0, 1, 0, 0⟩, ⟨7, 0, 0, 0, 1, 0, 0⟩, ⟨8, 0, 0, 0, 0, 0, 0⟩, ⟨8, 0, 0, 0, 0, 0, 0⟩] (v) w
  | 15, v, w => v = .bool true
  | 16, v, w => v = .bool false
  | 17, v, w => v = .bool false
  | 18, v, w => v = .bool false
  | 19, v, w => SlA [⟨1, 0, 0, 0, 0, 0, 0⟩, ⟨4, 0, 0, 0, 0, 0, 0⟩, ⟨4, 0, 0, 1, 0, 0, 0⟩, ⟨5, 0, 0, 0, 1, 0, 0⟩, ⟨7, 0, 0, 0, 1, 0, 0⟩, ⟨8, 0, 0, 0, 0, 0, 0⟩] (v) w
  | 20, v, w => v = evV ⟨8, 0, 0, 3, 0, 0, 0⟩
  | 21, v, w => v = evV ⟨9, 0, 0, 0, 0, 0, 0⟩
  | 22, v, w => v = evV ⟨9, 0, 0, 1, 0, 0, 0⟩
  | 23, v, w => v = evV ⟨1, 0, 1, 0, 1, 0, 0⟩
  | 24, v, w => SlA [⟨8, 0, 0, 3, 0, 0, 0⟩, ⟨9, 0, 0, 0, 0, 0, 0⟩, ⟨9, 0, 0, 1, 0, 0, 0⟩, ⟨1, 0, 1, 0, 1, 0, 0⟩] (v) w
  | 25, v, w => SlA [⟨8, 0, 0, 3, 0, 0, 0⟩, ⟨9, 0, 0, 0, 0, 0, 0⟩, ⟨9, 0, 0, 1, 0, 0, 0⟩, ⟨1, 0, 1, 0, 1, 0, 0⟩] (v) w
  | 26, v, w => LsA [[⟨1, 0, 0, 0, 0, 0, 0⟩, ⟨4, 0, 0, 0, 0, 0, 0⟩, ⟨4, 0, 0, 1, 0, 0, 0⟩, ⟨5, 0, 0, 0, 1, 0, 0⟩, ⟨7, 0, 0, 0, 1, 0, 0⟩, ⟨8, 0, 0, 0, 0, 0, 0⟩], [⟨8, 0, 0, 3, 0, 0, 0⟩, ⟨9, 0, 0, 0, 0, 0, 0⟩, ⟨9, 0, 0, 1, 0, 0, 0⟩, ⟨1, 0, 1, 0, 1, 0, 0⟩]] (v) w
  | 27, v, w => SlA [⟨1, 0, 0, 0, 0, 0, 0⟩, ⟨4, 0, 0, 0, 0, 0, 0⟩, ⟨4, 0, 0, 1, 0, 0, 0⟩, ⟨5, 0, 0, 0, 1, 0, 0⟩, ⟨7, 0, 0, 0, 1, 0, 0⟩, ⟨8, 0, 0, 0, 0, 0, 0⟩, ⟨8, 0, 0, 3, 0, 0, 0⟩, ⟨9, 0, 0, 0, 0, 0, 0⟩, ⟨9, 0, 0, 1, 0, 0, 0⟩, ⟨1, 0, 1, 0, 1, 0, 0⟩] (v) w
  | 28, v, w => TrA 3 4 2 [⟨1, 0, 0, 0, 0, 0, 0⟩, ⟨4, 0, 0, 0, 0, 0, 0⟩, ⟨4, 0, 0, 1, 0, 0, 0⟩, ⟨5, 0, 0, 0, 1, 0, 0⟩, ⟨7, 0, 0, 0, 1, 0, 0⟩, ⟨8, 0, 0, 0, 0, 0, 0⟩, ⟨8, 0, 0, 3, 0, 0, 0⟩, ⟨9, 0, 0, 0, 0, 0, 0⟩, ⟨9, 0, 0, 1, 0, 0, 0⟩, ⟨1, 0, 1, 0, 1, 0, 0⟩] (v) w
  | 29, v, w => v = .bool true
  | 30, v, w => v = .bool false
  | 31, v, w => v = .bool false
  | 32, v, w => v = .bool false
  | 33, v, w => SlA [⟨1, 0, 0, 0, 0, 0, 0⟩, ⟨4, 0, 0, 0, 0, 0, 0⟩, ⟨4, 0, 0, 1, 0, 0, 0⟩, ⟨5, 0, 0, 0, 1, 0, 0⟩, ⟨7, 0, 0, 0, 1, 0, 0⟩, ⟨8, 0, 0, 0, 0, 0, 0⟩] (v) w
  | 34, v, w => v = evV ⟨8, 0, 0, 3, 0, 0, 0⟩
  | 35, v, w => v = evV ⟨9, 0, 0, 0, 0, 0, 0⟩
  | 36, v, w => v = evV ⟨9, 0, 0, 1, 0, 0, 0⟩
  | 37, v, w => v = evV ⟨1, 0, 1, 0, 0, 0, 0⟩
  | 38, v, w => SlA [⟨8, 0, 0, 3, 0, 0, 0⟩, ⟨9, 0, 0, 0, 0, 0, 0⟩, ⟨9, 0, 0, 1, 0, 0, 0⟩, ⟨1, 0, 1, 0, 0, 0, 0⟩] (v) w
  | 39, v, w => SlA [⟨8, 0, 0, 3, 0, 0, 0⟩, ⟨9, 0, 0, 0, 0, 0, 0⟩, ⟨9, 0, 0, 1, 0, 0, 0⟩, ⟨1, 0, 1, 0, 0, 0, 0⟩] (v) w
  | 40, v, w => LsA [[⟨1, 0, 0, 0, 0, 0, 0⟩, ⟨4, 0, 0, 0, 0, 0, 0⟩, ⟨4, 0, 0, 1, 0, 0, 0⟩, ⟨5, 0, 0, 0, 1, 0, 0⟩, ⟨7, 0, 0, 0, 1, 0, 0⟩, ⟨8, 0, 0, 0, 0, 0, 0⟩], [⟨8, 0, 0, 3, 0, 0, 0⟩, ⟨9, 0, 0, 0, 0, 0, 0⟩, ⟨9, 0, 0, 1, 0, 0, 0⟩, ⟨1, 0, 1, 0, 0, 0, 0⟩]] (v) w
  | 41, v, w => SlA [⟨1, 0, 0, 0, 0, 0, 0⟩, ⟨4, 0, 0, 0, 0, 0, 0⟩, ⟨4, 0, 0, 1, 0, 0, 0⟩, ⟨5, 0, 0, 0, 1, 0, 0⟩, ⟨7, 0, 0, 0, 1, 0, 0⟩, ⟨8, 0, 0, 0, 0, 0, 0⟩, ⟨8, 0, 0, 3, 0, 0, 0⟩, ⟨9, 0, 0, 0, 0, 0, 0⟩, ⟨9, 0, 0, 1, 0, 0, 0⟩, ⟨1, 0, 1, 0, 0, 0, 0⟩] (v) w
  | 42, v, w => v = .bool true
  | 43, v, w => v = .bool false
  | 44, v, w => v = .bool false
  | 45, v, w => v = .bool false
  | 46, v, w => SlA [⟨1, 0, 0, 0, 0, 0, 0⟩, ⟨4, 0, 0, 0, 0, 0, 0⟩, ⟨4, 0, 0, 1, 0, 0, 0⟩, ⟨5, 0, 0, 0, 1, 0, 0⟩, ⟨7, 0, 0, 0, 1, 0, 0⟩, ⟨8, 0, 0, 0, 0, 0, 0⟩] (v) w
  | 47, v, w => v = evV ⟨8, 0, 0, 3, 0, 0, 0⟩
  | 48, v, w => v = evV ⟨9, 0, 0, 1, 0, 0, 0⟩
  | 49, v, w => SlA [⟨8, 0, 0, 3, 0, 0, 0⟩, ⟨9, 0, 0, 1, 0, 0, 0⟩] (v) w
  | 50, v, w => SlA [⟨8, 0, 0, 3, 0, 0, 0⟩, ⟨9, 0, 0, 1, 0, 0, 0⟩] (v) w
  | 51, v, w => LsA [[⟨1, 0, 0, 0, 0, 0, 0⟩, ⟨4, 0, 0, 0, 0, 0, 0⟩, ⟨4, 0, 0, 1, 0, 0, 0⟩, ⟨5, 0, 0, 0, 1, 0, 0⟩, ⟨7, 0, 0, 0, 1, 0, 0⟩, ⟨8, 0, 0, 0, 0, 0, 0⟩], [⟨8, 0, 0, 3, 0, 0, 0⟩, ⟨9, 0, 0, 1, 0, 0, 0⟩]] (v) w
  | 52, v, w => SlA [⟨1, 0, 0, 0, 0, 0, 0⟩, ⟨4, 0, 0, 0, 0, 0, 0⟩, ⟨4, 0, 0, 1, 0, 0, 0⟩, ⟨5, 0, 0, 0, 1, 0, 0⟩, ⟨7, 0, 0, 0, 1, 0, 0⟩, ⟨8, 0, 0, 0, 0, 0, 0⟩, ⟨8, 0, 0, 3, 0, 0, 0⟩, ⟨9, 0, 0, 1, 0, 0, 0⟩] (v) w
  | 53, v, w => v = .bool true
  | 54, v, w => v = .bool false
  | 55, v, w => v = .bool false
  | 56, v, w => v = .bool false
  | 57, v, w => v = evV ⟨1, 0, 0, 0, 0, 0, 0⟩
  | 58, v, w => v = evV ⟨4, 0, 0, 0, 0, 0, 0⟩
  | 59, v, w => v = evV ⟨5, 0, 0, 0, 1, 0, 0⟩
  | 60, v, w => v = evV ⟨7, 0, 0, 0, 1, 0, 0⟩
  | 61, v, w => v = evV ⟨8, 0, 0, 1, 0, 0, 0⟩
  | 62, v, w => SlA [⟨1, 0, 0, 0, 0, 0, 0⟩, ⟨4, 0, 0, 0, 0, 0, 0⟩, ⟨5, 0, 0, 0, 1, 0, 0⟩, ⟨7, 0, 0, 0, 1, 0, 0⟩, ⟨8, 0, 0, 1, 0, 0, 0⟩] (v) w
  | 63, v, w => v = .bool true
  | 64, v, w => v = .bool false
  | 65, v, w => v = .bool false
  | _ + 66, _, _ => False
theorem sn45_mono (i : Nat) (v : Value) (w w' : World) (b : Below w.heap.size w w') (h : sn45_S i v w) : sn45_S i v w' := by
  match i, h with
  | 0, h => exact SlA.stays h b
  | 1, h => exact h
  | 2, h => exact SlA.stays h b
  | 3, h => exact SlA.stays h b
  | 4, h => exact LsA.stays h b
  | 5, h => exact SlA.stays h b
  | 6, h => exact h
  | 7, h => exact h
  | 8, h => exact h
  | 9, h => exact SlA.stays h b
  | 10, h => exact h
  | 11, h => exact SlA.stays h b
  | 12, h => exact SlA.stays h b
  | 13, h => exact LsA.stays h b
  | 14, h => exact SlA.stays h b
  | 15, h => exact h
  | 16, h => exact h
  | 17, h => exact h
  | 18, h => exact h
  | 19, h => exact SlA.stays h b
  | 20, h => exact h
  | 21, h => exact h
  | 22, h => exact h
  | 23, h => exact h
  | 24, h => exact SlA.stays h b
  | 25, h => exact SlA.stays h b
  | 26, h => exact LsA.stays h b
  | 27, h => exact SlA.stays h b
  | 28, h => exact TrA.stays h b
  | 29, h => exact h
  | 30, h => exact h
  | 31, h => exact h
  | 32, h => exact h
  | 33, h => exact SlA.stays h b
  | 34, h => exact h
  | 35, h => exact h
  | 36, h => exact h
  | 37, h => exact h
  | 38, h => exact SlA.stays h b
  | 39, h => exact SlA.stays h b
  | 40, h => exact LsA.stays h b
  | 41, h => exact SlA.stays h b
  | 42, h => exact h
  | 43, h => exact h
  | 44, h => exact h
  | 45, h => exact h
  | 46, h => exact SlA.stays h b
  | 47, h => exact h
  | 48, h => exact h
  | 49, h => exact SlA.stays h b
  | 50, h => exact SlA.stays h b
  | 51, h => exact LsA.stays h b
  | 52, h => exact SlA.stays h b
  | 53, h => exact h
  | 54, h => exact h
  | 55, h => exact h
  | 56, h => exact h
  | 57, h => exact h
  | 58, h => exact h
  | 59, h => exact h
  | 60, h => exact h
  | 61, h => exact h
  | 62, h => exact SlA.stays h b
  | 63, h => exact h
  | 64, h => exact h
  | 65, h => exact h
set_option maxRecDepth 100000 in
set_option maxHeartbeats 4000000 in
theorem sn45 {Tb : World → Prop} (HC : CheckC Tb) {id : Nat} {ops : Array Oper} (hops : ops = sn45_ops) (T0 : Array Value) (hsz : T0.size = 726) (W : World) (ht : Tb W) (p6 : PtE ⟨1, 0, 0, 0, 0, 0, 0⟩ (T0[6]?.getD undef) W) (p9 : PtE ⟨4, 0, 0, 0, 0, 0, 0⟩ (T0[9]?.getD undef) W) (p10 : PtE ⟨1, 0, 1, 0, 0, 0, 0⟩ (T0[10]?.getD undef) W) (p21 : PtE ⟨1, 0, 1, 0, 1, 0, 0⟩ (T0[21]?.getD undef) W) (p22 : SlA [⟨1, 0, 0, 0, 0, 0, 0⟩, ⟨4, 0, 0, 0, 0, 0, 0⟩, ⟨4, 0, 0, 1, 0, 0, 0⟩, ⟨5, 0, 0, 0, 1, 0, 0⟩, ⟨7, 0, 0, 0, 1, 0, 0⟩, ⟨8, 0, 0, 0, 0, 0, 0⟩] (T0[22]?.getD undef) W) {Q : Exit → Act → World → Prop}
    (hend : ∀ (T : Array Value) (w : World), T.size = 726 → Below W.heap.size W w → (∀ x, x ∉ sn45_ds → T[x]? = T0[x]?) → T[634]?.getD undef = .bool false → Q .normal ⟨T, []⟩ w) : (Code.region id ops true).wp Tryd.prog Q ⟨T0, []⟩ W := by
  subst hops
  have hos : sn45_ops.size = 66 := by kernel_rfl
  have hga : (List.range 66).all (fun i => match sn45_ops[i]? with | some o => o.guard == ([none, none, none, none, none, none, none, none, none, some (8, false), some (8, false), some (8, false), some (8, false), some (8, false), some (8, false), some (8, false), some (8, false), none, none, some (18, false), some (18, false), some (18, false), some (18, false), some (18, false), some (18, false), some (18, false), some (18, false), some (18, false), some (18, false), some (18, false), some (18, false), none, none, some (32, false), some (32, false), some (32, false), some (32, false), some (32, false), some (32, false), some (32, false), some (32, false), some (32, false), some (32, false), some (32, false), none, none, some (45, false), some (45, false), some (45, false), some (45, false), some (45, false), some (45, false), some (45, false), some (45, false), some (45, false), none, none, some (56, false), some (56, false), some (56, false), some (56, false), some (56, false), some (56, false), some (56, false), some (56, false), none] : List (Option (Nat × Bool))).getD i none | none => false) = true := by kernel_rfl
  have q6 : ∀ (a : Act) (w : World), (∀ t, t ∉ sn45_ds → a.tmps[t]?.getD undef = T0[t]?.getD undef) → Below W.heap.size W w → PtE ⟨1, 0, 0, 0, 0, 0, 0⟩ (a.tmps[6]?.getD undef) w := fun a w hT hb => by rw [hT 6 (by decide)]; exact PtE.stays p6 hb
  have q9 : ∀ (a : Act) (w : World), (∀ t, t ∉ sn45_ds → a.tmps[t]?.getD undef = T0[t]?.getD undef) → Below W.heap.size W w → PtE ⟨4, 0, 0, 0, 0, 0, 0⟩ (a.tmps[9]?.getD undef) w := fun a w hT hb => by rw [hT 9 (by decide)]; exact PtE.stays p9 hb
  have q10 : ∀ (a : Act) (w : World), (∀ t, t ∉ sn45_ds → a.tmps[t]?.getD undef = T0[t]?.getD undef) → Below W.heap.size W w → PtE ⟨1, 0, 1, 0, 0, 0, 0⟩ (a.tmps[10]?.getD undef) w := fun a w hT hb => by rw [hT 10 (by decide)]; exact PtE.stays p10 hb
  have q21 : ∀ (a : Act) (w : World), (∀ t, t ∉ sn45_ds → a.tmps[t]?.getD undef = T0[t]?.getD undef) → Below W.heap.size W w → PtE ⟨1, 0, 1, 0, 1, 0, 0⟩ (a.tmps[21]?.getD undef) w := fun a w hT hb => by rw [hT 21 (by decide)]; exact PtE.stays p21 hb
  have q22 : ∀ (a : Act) (w : World), (∀ t, t ∉ sn45_ds → a.tmps[t]?.getD undef = T0[t]?.getD undef) → Below W.heap.size W w → SlA [⟨1, 0, 0, 0, 0, 0, 0⟩, ⟨4, 0, 0, 0, 0, 0, 0⟩, ⟨4, 0, 0, 1, 0, 0, 0⟩, ⟨5, 0, 0, 0, 1, 0, 0⟩, ⟨7, 0, 0, 0, 1, 0, 0⟩, ⟨8, 0, 0, 0, 0, 0, 0⟩] (a.tmps[22]?.getD undef) w := fun a w hT hb => by rw [hT 22 (by decide)]; exact SlA.stays p22 hb
  have hlt : ∀ x ∈ sn45_ds, x < T0.size := fun x hx => by
    have hall : (sn45_ds.all fun d => decide (d < 726)) = true := by decide
    have := List.all_eq_true.1 hall x hx
    simp only [decide_eq_true_eq] at this
    omega
  refine wp_region_kinds3 sn45_S sn45_ds W T0 (by decide) hlt (by kernel_rfl) (by kernel_rfl) (fun i o j want ho hgd => ?_) sn45_mono ?_ ?_
  · have hi : i < 66 := by rw [← hos]; exact (Array.getElem?_eq_some_iff.1 ho).1
    have h1 := List.all_eq_true.1 hga i (by simpa using hi)
    rw [ho] at h1
    simp only [hgd, beq_iff_eq] at h1
    match i, hi with
    | 0, _ => cases h1
    | 1, _ => cases h1
    | 2, _ => cases h1
    | 3, _ => cases h1
    | 4, _ => cases h1
    | 5, _ => cases h1
    | 6, _ => cases h1
    | 7, _ => cases h1
    | 8, _ => cases h1
    | 9, _ => obtain ⟨rfl, rfl⟩ := Prod.mk.inj (Option.some.inj h1); exact fun v w h => h
    | 10, _ => obtain ⟨rfl, rfl⟩ := Prod.mk.inj (Option.some.inj h1); exact fun v w h => h
    | 11, _ => obtain ⟨rfl, rfl⟩ := Prod.mk.inj (Option.some.inj h1); exact fun v w h => h
    | 12, _ => obtain ⟨rfl, rfl⟩ := Prod.mk.inj (Option.some.inj h1); exact fun v w h => h
    | 13, _ => obtain ⟨rfl, rfl⟩ := Prod.mk.inj (Option.some.inj h1); exact fun v w h => h
    | 14, _ => obtain ⟨rfl, rfl⟩ := Prod.mk.inj (Option.some.inj h1); exact fun v w h => h
    | 15, _ => obtain ⟨rfl, rfl⟩ := Prod.mk.inj (Option.some.inj h1); exact fun v w h => h
    | 16, _ => obtain ⟨rfl, rfl⟩ := Prod.mk.inj (Option.some.inj h1); exact fun v w h => h
    | 17, _ => cases h1
    | 18, _ => cases h1
    | 19, _ => obtain ⟨rfl, rfl⟩ := Prod.mk.inj (Option.some.inj h1); exact fun v w h => h
    | 20, _ => obtain ⟨rfl, rfl⟩ := Prod.mk.inj (Option.some.inj h1); exact fun v w h => h
    | 21, _ => obtain ⟨rfl, rfl⟩ := Prod.mk.inj (Option.some.inj h1); exact fun v w h => h
    | 22, _ => obtain ⟨rfl, rfl⟩ := Prod.mk.inj (Option.some.inj h1); exact fun v w h => h
    | 23, _ => obtain ⟨rfl, rfl⟩ := Prod.mk.inj (Option.some.inj h1); exact fun v w h => h
    | 24, _ => obtain ⟨rfl, rfl⟩ := Prod.mk.inj (Option.some.inj h1); exact fun v w h => h
    | 25, _ => obtain ⟨rfl, rfl⟩ := Prod.mk.inj (Option.some.inj h1); exact fun v w h => h
    | 26, _ => obtain ⟨rfl, rfl⟩ := Prod.mk.inj (Option.some.inj h1); exact fun v w h => h
    | 27, _ => obtain ⟨rfl, rfl⟩ := Prod.mk.inj (Option.some.inj h1); exact fun v w h => h
    | 28, _ => obtain ⟨rfl, rfl⟩ := Prod.mk.inj (Option.some.inj h1); exact fun v w h => h
    | 29, _ => obtain ⟨rfl, rfl⟩ := Prod.mk.inj (Option.some.inj h1); exact fun v w h => h
    | 30, _ => obtain ⟨rfl, rfl⟩ := Prod.mk.inj (Option.some.inj h1); exact fun v w h => h
    | 31, _ => cases h1
    | 32, _ => cases h1
    | 33, _ => obtain ⟨rfl, rfl⟩ := Prod.mk.inj (Option.some.inj h1); exact fun v w h => h
    | 34, _ => obtain ⟨rfl, rfl⟩ := Prod.mk.inj (Option.some.inj h1); exact fun v w h => h
    | 35, _ => obtain ⟨rfl, rfl⟩ := Prod.mk.inj (Option.some.inj h1); exact fun v w h => h
    | 36, _ => obtain ⟨rfl, rfl⟩ := Prod.mk.inj (Option.some.inj h1); exact fun v w h => h
    | 37, _ => obtain ⟨rfl, rfl⟩ := Prod.mk.inj (Option.some.inj h1); exact fun v w h => h
    | 38, _ => obtain ⟨rfl, rfl⟩ := Prod.mk.inj (Option.some.inj h1); exact fun v w h => h
    | 39, _ => obtain ⟨rfl, rfl⟩ := Prod.mk.inj (Option.some.inj h1); exact fun v w h => h
    | 40, _ => obtain ⟨rfl, rfl⟩ := Prod.mk.inj (Option.some.inj h1); exact fun v w h => h
    | 41, _ => obtain ⟨rfl, rfl⟩ := Prod.mk.inj (Option.some.inj h1); exact fun v w h => h
    | 42, _ => obtain ⟨rfl, rfl⟩ := Prod.mk.inj (Option.some.inj h1); exact fun v w h => h
    | 43, _ => obtain ⟨rfl, rfl⟩ := Prod.mk.inj (Option.some.inj h1); exact fun v w h => h
    | 44, _ => cases h1
    | 45, _ => cases h1
    | 46, _ => obtain ⟨rfl, rfl⟩ := Prod.mk.inj (Option.some.inj h1); exact fun v w h => h
    | 47, _ => obtain ⟨rfl, rfl⟩ := Prod.mk.inj (Option.some.inj h1); exact fun v w h => h
    | 48, _ => obtain ⟨rfl, rfl⟩ := Prod.mk.inj (Option.some.inj h1); exact fun v w h => h
    | 49, _ => obtain ⟨rfl, rfl⟩ := Prod.mk.inj (Option.some.inj h1); exact fun v w h => h
    | 50, _ => obtain ⟨rfl, rfl⟩ := Prod.mk.inj (Option.some.inj h1); exact fun v w h => h
    | 51, _ => obtain ⟨rfl, rfl⟩ := Prod.mk.inj (Option.some.inj h1); exact fun v w h => h
    | 52, _ => obtain ⟨rfl, rfl⟩ := Prod.mk.inj (Option.some.inj h1); exact fun v w h => h
    | 53, _ => obtain ⟨rfl, rfl⟩ := Prod.mk.inj (Option.some.inj h1); exact fun v w h => h
    | 54, _ => obtain ⟨rfl, rfl⟩ := Prod.mk.inj (Option.some.inj h1); exact fun v w h => h
    | 55, _ => cases h1
    | 56, _ => cases h1
    | 57, _ => obtain ⟨rfl, rfl⟩ := Prod.mk.inj (Option.some.inj h1); exact fun v w h => h
    | 58, _ => obtain ⟨rfl, rfl⟩ := Prod.mk.inj (Option.some.inj h1); exact fun v w h => h
    | 59, _ => obtain ⟨rfl, rfl⟩ := Prod.mk.inj (Option.some.inj h1); exact fun v w h => h
    | 60, _ => obtain ⟨rfl, rfl⟩ := Prod.mk.inj (Option.some.inj h1); exact fun v w h => h
    | 61, _ => obtain ⟨rfl, rfl⟩ := Prod.mk.inj (Option.some.inj h1); exact fun v w h => h
    | 62, _ => obtain ⟨rfl, rfl⟩ := Prod.mk.inj (Option.some.inj h1); exact fun v w h => h
    | 63, _ => obtain ⟨rfl, rfl⟩ := Prod.mk.inj (Option.some.inj h1); exact fun v w h => h
    | 64, _ => obtain ⟨rfl, rfl⟩ := Prod.mk.inj (Option.some.inj h1); exact fun v w h => h
    | 65, _ => cases h1
    | i + 66, h => exact absurd (show i + 66 < 66 from h) (by omega)
  · intro i o ho hi a w hT hW hb K hK
    match i, hi with
    | 0, _ =>
      exact v_move 22 (opAtW ho (by kernel_rfl)) rfl (hK _ _ (Below.refl _ _) (q22 a w hT hb))
    | 1, _ =>
      exact o_ev (opAtW ho (by kernel_rfl)) (ev_any (9) (0) (0) w) (fun w' hb' => hK _ w' hb' rfl)
    | 2, _ =>
      have p570 : a.tmps[570]?.getD undef = evV ⟨9, 0, 0, 0, 0, 0, 0⟩ := (hW 1 (by kernel_rfl))
      exact n_slice [⟨9, 0, 0, 0, 0, 0, 0⟩] #[(0, .tmp 570)] (opAtW ho (by kernel_rfl)) rfl (by kernel_rfl) (by decide) (by decide) (by simp [Act.eval, p570]) (fun v w' hb' hs => hK v w' hb' hs)
    | 3, _ =>
      exact n_many 571 (opAtW ho (by kernel_rfl)) (hW 2 (by kernel_rfl)) (fun u w' hb' hs => hK u w' hb' hs)
    | 4, _ =>
      have p569 : SlA [⟨1, 0, 0, 0, 0, 0, 0⟩, ⟨4, 0, 0, 0, 0, 0, 0⟩, ⟨4, 0, 0, 1, 0, 0, 0⟩, ⟨5, 0, 0, 0, 1, 0, 0⟩, ⟨7, 0, 0, 0, 1, 0, 0⟩, ⟨8, 0, 0, 0, 0, 0, 0⟩] (a.tmps[569]?.getD undef) w := (hW 0 (by kernel_rfl))
      have p572 : SlA [⟨9, 0, 0, 0, 0, 0, 0⟩] (a.tmps[572]?.getD undef) w := (hW 3 (by kernel_rfl))
      refine n_lists [[⟨1, 0, 0, 0, 0, 0, 0⟩, ⟨4, 0, 0, 0, 0, 0, 0⟩, ⟨4, 0, 0, 1, 0, 0, 0⟩, ⟨5, 0, 0, 0, 1, 0, 0⟩, ⟨7, 0, 0, 0, 1, 0, 0⟩, ⟨8, 0, 0, 0, 0, 0, 0⟩], [⟨9, 0, 0, 0, 0, 0, 0⟩]] [a.tmps[569]?.getD undef, a.tmps[572]?.getD undef] #[(0, .tmp 569), (1, .tmp 572)] (opAtW ho (by kernel_rfl)) rfl rfl (by decide) (by decide) (fun j h => ?_) (by simp [Act.eval]) (fun v w' hb' hs => hK v w' hb' hs)
      match j, h with
      | 0, _ => exact p569
      | 1, _ => exact p572
      | j + 2, h => exact absurd h (by simp)
    | 5, _ =>
      exact n_join 573 [⟨1, 0, 0, 0, 0, 0, 0⟩, ⟨4, 0, 0, 0, 0, 0, 0⟩, ⟨4, 0, 0, 1, 0, 0, 0⟩, ⟨5, 0, 0, 0, 1, 0, 0⟩, ⟨7, 0, 0, 0, 1, 0, 0⟩, ⟨8, 0, 0, 0, 0, 0, 0⟩, ⟨9, 0, 0, 0, 0, 0, 0⟩] (opAtW ho (by kernel_rfl)) (hW 4 (by kernel_rfl)) (by decide) (by decide) rfl (fun u w' hb' hs => hK u w' hb' hs)
    | 6, _ =>
      exact n_bad HC (HC.below W w ht hb) 574 true (opAtW ho (by kernel_rfl)) (hW 5 (by kernel_rfl)) (by decide) (by decide) (by kernel_rfl) (fun w' hb' => hK _ w' hb' rfl)
    | 7, _ =>
      exact u_notT 575 (opAtW ho (by kernel_rfl)) (hW 6 (by kernel_rfl)) (hK _ _ (Below.refl _ _) rfl)
    | 8, _ =>
      exact v_move 576 (opAtW ho (by kernel_rfl)) (hW 7 (by kernel_rfl)) (hK _ _ (Below.refl _ _) rfl)
    | 9, _ =>
      exact v_move 22 (opAtW ho (by kernel_rfl)) rfl (hK _ _ (Below.refl _ _) (q22 a w hT hb))
    | 10, _ =>
      exact o_ev (opAtW ho (by kernel_rfl)) (ev_any (8) (0) (0) w) (fun w' hb' => hK _ w' hb' rfl)
    | 11, _ =>
      have p579 : a.tmps[579]?.getD undef = evV ⟨8, 0, 0, 0, 0, 0, 0⟩ := (hW 10 (by kernel_rfl))
      exact n_slice [⟨8, 0, 0, 0, 0, 0, 0⟩] #[(0, .tmp 579)] (opAtW ho (by kernel_rfl)) rfl (by kernel_rfl) (by decide) (by decide) (by simp [Act.eval, p579]) (fun v w' hb' hs => hK v w' hb' hs)
    | 12, _ =>
      exact n_many 580 (opAtW ho (by kernel_rfl)) (hW 11 (by kernel_rfl)) (fun u w' hb' hs => hK u w' hb' hs)
    | 13, _ =>
      have p578 : SlA [⟨1, 0, 0, 0, 0, 0, 0⟩, ⟨4, 0, 0, 0, 0, 0, 0⟩, ⟨4, 0, 0, 1, 0, 0, 0⟩, ⟨5, 0, 0, 0, 1, 0, 0⟩, ⟨7, 0, 0, 0, 1, 0, 0⟩, ⟨8, 0, 0, 0, 0, 0, 0⟩] (a.tmps[578]?.getD undef) w := (hW 9 (by kernel_rfl))
      have p581 : SlA [⟨8, 0, 0, 0, 0, 0, 0⟩] (a.tmps[581]?.getD undef) w := (hW 12 (by kernel_rfl))
      refine n_lists [[⟨1, 0, 0, 0, 0, 0, 0⟩, ⟨4, 0, 0, 0, 0, 0, 0⟩, ⟨4, 0, 0, 1, 0, 0, 0⟩, ⟨5, 0, 0, 0, 1, 0, 0⟩, ⟨7, 0, 0, 0, 1, 0, 0⟩, ⟨8, 0, 0, 0, 0, 0, 0⟩], [⟨8, 0, 0, 0, 0, 0, 0⟩]] [a.tmps[578]?.getD undef, a.tmps[581]?.getD undef] #[(0, .tmp 578), (1, .tmp 581)] (opAtW ho (by kernel_rfl)) rfl rfl (by decide) (by decide) (fun j h => ?_) (by simp [Act.eval]) (fun v w' hb' hs => hK v w' hb' hs)
      match j, h with
      | 0, _ => exact p578
      | 1, _ => exact p581
      | j + 2, h => exact absurd h (by simp)
    | 14, _ =>
      exact n_join 582 [⟨1, 0, 0, 0, 0, 0, 0⟩, ⟨4, 0, 0, 0, 0, 0, 0⟩, ⟨4, 0, 0, 1, 0, 0, 0⟩, ⟨5, 0, 0, 0, 1, 0, 0⟩, ⟨7, 0, 0, 0, 1, 0, 0⟩, ⟨8, 0, 0, 0, 0, 0, 0⟩, ⟨8, 0, 0, 0, 0, 0, 0⟩] (opAtW ho (by kernel_rfl)) (hW 13 (by kernel_rfl)) (by decide) (by decide) rfl (fun u w' hb' hs => hK u w' hb' hs)
    | 15, _ =>
      exact n_bad HC (HC.below W w ht hb) 583 true (opAtW ho (by kernel_rfl)) (hW 14 (by kernel_rfl)) (by decide) (by decide) (by kernel_rfl) (fun w' hb' => hK _ w' hb' rfl)
    | 16, _ =>
      exact u_notT 584 (opAtW ho (by kernel_rfl)) (hW 15 (by kernel_rfl)) (hK _ _ (Below.refl _ _) rfl)
    | 17, _ =>
      exact v_orF 577 585 (opAtW ho (by kernel_rfl)) (hW 8 (by kernel_rfl)) (hW 16 (by kernel_rfl)) (hK _ _ (Below.refl _ _) rfl)
    | 18, _ =>
      exact v_move 586 (opAtW ho (by kernel_rfl)) (hW 17 (by kernel_rfl)) (hK _ _ (Below.refl _ _) rfl)
    | 19, _ =>
      exact v_move 22 (opAtW ho (by kernel_rfl)) rfl (hK _ _ (Below.refl _ _) (q22 a w hT hb))
    | 20, _ =>
      exact o_ev (opAtW ho (by kernel_rfl)) (ev_any (8) (3) (0) w) (fun w' hb' => hK _ w' hb' rfl)
    | 21, _ =>
      exact o_ev (opAtW ho (by kernel_rfl)) (ev_any (9) (0) (0) w) (fun w' hb' => hK _ w' hb' rfl)
    | 22, _ =>
      exact o_ev (opAtW ho (by kernel_rfl)) (ev_any (9) (1) (0) w) (fun w' hb' => hK _ w' hb' rfl)
    | 23, _ =>
      exact n_load 21 (opAtW ho (by kernel_rfl)) (q21 a w hT hb) (hK _ _ (Below.refl _ _) rfl)
    | 24, _ =>
      have p589 : a.tmps[589]?.getD undef = evV ⟨8, 0, 0, 3, 0, 0, 0⟩ := (hW 20 (by kernel_rfl))
      have p590 : a.tmps[590]?.getD undef = evV ⟨9, 0, 0, 0, 0, 0, 0⟩ := (hW 21 (by kernel_rfl))
      have p591 : a.tmps[591]?.getD undef = evV ⟨9, 0, 0, 1, 0, 0, 0⟩ := (hW 22 (by kernel_rfl))
      have p592 : a.tmps[592]?.getD undef = evV ⟨1, 0, 1, 0, 1, 0, 0⟩ := (hW 23 (by kernel_rfl))
      exact n_slice [⟨8, 0, 0, 3, 0, 0, 0⟩, ⟨9, 0, 0, 0, 0, 0, 0⟩, ⟨9, 0, 0, 1, 0, 0, 0⟩, ⟨1, 0, 1, 0, 1, 0, 0⟩] #[(0, .tmp 589), (1, .tmp 590), (2, .tmp 591), (3, .tmp 592)] (opAtW ho (by kernel_rfl)) rfl (by kernel_rfl) (by decide) (by decide) (by simp [Act.eval, p589, p590, p591, p592]) (fun v w' hb' hs => hK v w' hb' hs)
    | 25, _ =>
      exact n_many 593 (opAtW ho (by kernel_rfl)) (hW 24 (by kernel_rfl)) (fun u w' hb' hs => hK u w' hb' hs)
    | 26, _ =>
      have p588 : SlA [⟨1, 0, 0, 0, 0, 0, 0⟩, ⟨4, 0, 0, 0, 0, 0, 0⟩, ⟨4, 0, 0, 1, 0, 0, 0⟩, ⟨5, 0, 0, 0, 1, 0, 0⟩, ⟨7, 0, 0, 0, 1, 0, 0⟩, ⟨8, 0, 0, 0, 0, 0, 0⟩] (a.tmps[588]?.getD undef) w := (hW 19 (by kernel_rfl))
      have p594 : SlA [⟨8, 0, 0, 3, 0, 0, 0⟩, ⟨9, 0, 0, 0, 0, 0, 0⟩, ⟨9, 0, 0, 1, 0, 0, 0⟩, ⟨1, 0, 1, 0, 1, 0, 0⟩] (a.tmps[594]?.getD undef) w := (hW 25 (by kernel_rfl))
      refine n_lists [[⟨1, 0, 0, 0, 0, 0, 0⟩, ⟨4, 0, 0, 0, 0, 0, 0⟩, ⟨4, 0, 0, 1, 0, 0, 0⟩, ⟨5, 0, 0, 0, 1, 0, 0⟩, ⟨7, 0, 0, 0, 1, 0, 0⟩, ⟨8, 0, 0, 0, 0, 0, 0⟩], [⟨8, 0, 0, 3, 0, 0, 0⟩, ⟨9, 0, 0, 0, 0, 0, 0⟩, ⟨9, 0, 0, 1, 0, 0, 0⟩, ⟨1, 0, 1, 0, 1, 0, 0⟩]] [a.tmps[588]?.getD undef, a.tmps[594]?.getD undef] #[(0, .tmp 588), (1, .tmp 594)] (opAtW ho (by kernel_rfl)) rfl rfl (by decide) (by decide) (fun j h => ?_) (by simp [Act.eval]) (fun v w' hb' hs => hK v w' hb' hs)
      match j, h with
      | 0, _ => exact p588
      | 1, _ => exact p594
      | j + 2, h => exact absurd h (by simp)
    | 27, _ =>
      exact n_join 595 [⟨1, 0, 0, 0, 0, 0, 0⟩, ⟨4, 0, 0, 0, 0, 0, 0⟩, ⟨4, 0, 0, 1, 0, 0, 0⟩, ⟨5, 0, 0, 0, 1, 0, 0⟩, ⟨7, 0, 0, 0, 1, 0, 0⟩, ⟨8, 0, 0, 0, 0, 0, 0⟩, ⟨8, 0, 0, 3, 0, 0, 0⟩, ⟨9, 0, 0, 0, 0, 0, 0⟩, ⟨9, 0, 0, 1, 0, 0, 0⟩, ⟨1, 0, 1, 0, 1, 0, 0⟩] (opAtW ho (by kernel_rfl)) (hW 26 (by kernel_rfl)) (by decide) (by decide) rfl (fun u w' hb' hs => hK u w' hb' hs)
    | 28, _ =>
      exact n_over 596 (opAtW ho (by kernel_rfl)) (hW 27 (by kernel_rfl)) (fun u w' hb' hs => hK u w' hb' hs)
    | 29, _ =>
      exact n_fine HC (HC.below W w ht hb) 597 true (opAtW ho (by kernel_rfl)) (hW 28 (by kernel_rfl)) (by decide) (by decide) (by decide) (by decide) (by kernel_rfl) (fun w' hb' => hK _ w' hb' rfl)
    | 30, _ =>
      exact u_notT 598 (opAtW ho (by kernel_rfl)) (hW 29 (by kernel_rfl)) (hK _ _ (Below.refl _ _) rfl)
    | 31, _ =>
      exact v_orF 587 599 (opAtW ho (by kernel_rfl)) (hW 18 (by kernel_rfl)) (hW 30 (by kernel_rfl)) (hK _ _ (Below.refl _ _) rfl)
    | 32, _ =>
      exact v_move 600 (opAtW ho (by kernel_rfl)) (hW 31 (by kernel_rfl)) (hK _ _ (Below.refl _ _) rfl)
    | 33, _ =>
      exact v_move 22 (opAtW ho (by kernel_rfl)) rfl (hK _ _ (Below.refl _ _) (q22 a w hT hb))
    | 34, _ =>
      exact o_ev (opAtW ho (by kernel_rfl)) (ev_any (8) (3) (0) w) (fun w' hb' => hK _ w' hb' rfl)
    | 35, _ =>
      exact o_ev (opAtW ho (by kernel_rfl)) (ev_any (9) (0) (0) w) (fun w' hb' => hK _ w' hb' rfl)
    | 36, _ =>
      exact o_ev (opAtW ho (by kernel_rfl)) (ev_any (9) (1) (0) w) (fun w' hb' => hK _ w' hb' rfl)
    | 37, _ =>
      exact n_load 10 (opAtW ho (by kernel_rfl)) (q10 a w hT hb) (hK _ _ (Below.refl _ _) rfl)
    | 38, _ =>
      have p603 : a.tmps[603]?.getD undef = evV ⟨8, 0, 0, 3, 0, 0, 0⟩ := (hW 34 (by kernel_rfl))
      have p604 : a.tmps[604]?.getD undef = evV ⟨9, 0, 0, 0, 0, 0, 0⟩ := (hW 35 (by kernel_rfl))
      have p605 : a.tmps[605]?.getD undef = evV ⟨9, 0, 0, 1, 0, 0, 0⟩ := (hW 36 (by kernel_rfl))
      have p606 : a.tmps[606]?.getD undef = evV ⟨1, 0, 1, 0, 0, 0, 0⟩ := (hW 37 (by kernel_rfl))
      exact n_slice [⟨8, 0, 0, 3, 0, 0, 0⟩, ⟨9, 0, 0, 0, 0, 0, 0⟩, ⟨9, 0, 0, 1, 0, 0, 0⟩, ⟨1, 0, 1, 0, 0, 0, 0⟩] #[(0, .tmp 603), (1, .tmp 604), (2, .tmp 605), (3, .tmp 606)] (opAtW ho (by kernel_rfl)) rfl (by kernel_rfl) (by decide) (by decide) (by simp [Act.eval, p603, p604, p605, p606]) (fun v w' hb' hs => hK v w' hb' hs)
    | 39, _ =>
      exact n_many 607 (opAtW ho (by kernel_rfl)) (hW 38 (by kernel_rfl)) (fun u w' hb' hs => hK u w' hb' hs)
    | 40, _ =>
      have p602 : SlA [⟨1, 0, 0, 0, 0, 0, 0⟩, ⟨4, 0, 0, 0, 0, 0, 0⟩, ⟨4, 0, 0, 1, 0, 0, 0⟩, ⟨5, 0, 0, 0, 1, 0, 0⟩, ⟨7, 0, 0, 0, 1, 0, 0⟩, ⟨8, 0, 0, 0, 0, 0, 0⟩] (a.tmps[602]?.getD undef) w := (hW 33 (by kernel_rfl))
      have p608 : SlA [⟨8, 0, 0, 3, 0, 0, 0⟩, ⟨9, 0, 0, 0, 0, 0, 0⟩, ⟨9, 0, 0, 1, 0, 0, 0⟩, ⟨1, 0, 1, 0, 0, 0, 0⟩] (a.tmps[608]?.getD undef) w := (hW 39 (by kernel_rfl))
      refine n_lists [[⟨1, 0, 0, 0, 0, 0, 0⟩, ⟨4, 0, 0, 0, 0, 0, 0⟩, ⟨4, 0, 0, 1, 0, 0, 0⟩, ⟨5, 0, 0, 0, 1, 0, 0⟩, ⟨7, 0, 0, 0, 1, 0, 0⟩, ⟨8, 0, 0, 0, 0, 0, 0⟩], [⟨8, 0, 0, 3, 0, 0, 0⟩, ⟨9, 0, 0, 0, 0, 0, 0⟩, ⟨9, 0, 0, 1, 0, 0, 0⟩, ⟨1, 0, 1, 0, 0, 0, 0⟩]] [a.tmps[602]?.getD undef, a.tmps[608]?.getD undef] #[(0, .tmp 602), (1, .tmp 608)] (opAtW ho (by kernel_rfl)) rfl rfl (by decide) (by decide) (fun j h => ?_) (by simp [Act.eval]) (fun v w' hb' hs => hK v w' hb' hs)
      match j, h with
      | 0, _ => exact p602
      | 1, _ => exact p608
      | j + 2, h => exact absurd h (by simp)
    | 41, _ =>
      exact n_join 609 [⟨1, 0, 0, 0, 0, 0, 0⟩, ⟨4, 0, 0, 0, 0, 0, 0⟩, ⟨4, 0, 0, 1, 0, 0, 0⟩, ⟨5, 0, 0, 0, 1, 0, 0⟩, ⟨7, 0, 0, 0, 1, 0, 0⟩, ⟨8, 0, 0, 0, 0, 0, 0⟩, ⟨8, 0, 0, 3, 0, 0, 0⟩, ⟨9, 0, 0, 0, 0, 0, 0⟩, ⟨9, 0, 0, 1, 0, 0, 0⟩, ⟨1, 0, 1, 0, 0, 0, 0⟩] (opAtW ho (by kernel_rfl)) (hW 40 (by kernel_rfl)) (by decide) (by decide) rfl (fun u w' hb' hs => hK u w' hb' hs)
    | 42, _ =>
      exact n_bad HC (HC.below W w ht hb) 610 true (opAtW ho (by kernel_rfl)) (hW 41 (by kernel_rfl)) (by decide) (by decide) (by kernel_rfl) (fun w' hb' => hK _ w' hb' rfl)
    | 43, _ =>
      exact u_notT 611 (opAtW ho (by kernel_rfl)) (hW 42 (by kernel_rfl)) (hK _ _ (Below.refl _ _) rfl)
    | 44, _ =>
      exact v_orF 601 612 (opAtW ho (by kernel_rfl)) (hW 32 (by kernel_rfl)) (hW 43 (by kernel_rfl)) (hK _ _ (Below.refl _ _) rfl)
    | 45, _ =>
      exact v_move 613 (opAtW ho (by kernel_rfl)) (hW 44 (by kernel_rfl)) (hK _ _ (Below.refl _ _) rfl)
    | 46, _ =>
      exact v_move 22 (opAtW ho (by kernel_rfl)) rfl (hK _ _ (Below.refl _ _) (q22 a w hT hb))
    | 47, _ =>
      exact o_ev (opAtW ho (by kernel_rfl)) (ev_any (8) (3) (0) w) (fun w' hb' => hK _ w' hb' rfl)
    | 48, _ =>
      exact o_ev (opAtW ho (by kernel_rfl)) (ev_any (9) (1) (0) w) (fun w' hb' => hK _ w' hb' rfl)
    | 49, _ =>
      have p616 : a.tmps[616]?.getD undef = evV ⟨8, 0, 0, 3, 0, 0, 0⟩ := (hW 47 (by kernel_rfl))
      have p617 : a.tmps[617]?.getD undef = evV ⟨9, 0, 0, 1, 0, 0, 0⟩ := (hW 48 (by kernel_rfl))
      exact n_slice [⟨8, 0, 0, 3, 0, 0, 0⟩, ⟨9, 0, 0, 1, 0, 0, 0⟩] #[(0, .tmp 616), (1, .tmp 617)] (opAtW ho (by kernel_rfl)) rfl (by kernel_rfl) (by decide) (by decide) (by simp [Act.eval, p616, p617]) (fun v w' hb' hs => hK v w' hb' hs)
    | 50, _ =>
      exact n_many 618 (opAtW ho (by kernel_rfl)) (hW 49 (by kernel_rfl)) (fun u w' hb' hs => hK u w' hb' hs)
    | 51, _ =>
      have p615 : SlA [⟨1, 0, 0, 0, 0, 0, 0⟩, ⟨4, 0, 0, 0, 0, 0, 0⟩, ⟨4, 0, 0, 1, 0, 0, 0⟩, ⟨5, 0, 0, 0, 1, 0, 0⟩, ⟨7, 0, 0, 0, 1, 0, 0⟩, ⟨8, 0, 0, 0, 0, 0, 0⟩] (a.tmps[615]?.getD undef) w := (hW 46 (by kernel_rfl))
      have p619 : SlA [⟨8, 0, 0, 3, 0, 0, 0⟩, ⟨9, 0, 0, 1, 0, 0, 0⟩] (a.tmps[619]?.getD undef) w := (hW 50 (by kernel_rfl))
      refine n_lists [[⟨1, 0, 0, 0, 0, 0, 0⟩, ⟨4, 0, 0, 0, 0, 0, 0⟩, ⟨4, 0, 0, 1, 0, 0, 0⟩, ⟨5, 0, 0, 0, 1, 0, 0⟩, ⟨7, 0, 0, 0, 1, 0, 0⟩, ⟨8, 0, 0, 0, 0, 0, 0⟩], [⟨8, 0, 0, 3, 0, 0, 0⟩, ⟨9, 0, 0, 1, 0, 0, 0⟩]] [a.tmps[615]?.getD undef, a.tmps[619]?.getD undef] #[(0, .tmp 615), (1, .tmp 619)] (opAtW ho (by kernel_rfl)) rfl rfl (by decide) (by decide) (fun j h => ?_) (by simp [Act.eval]) (fun v w' hb' hs => hK v w' hb' hs)
      match j, h with
      | 0, _ => exact p615
      | 1, _ => exact p619
      | j + 2, h => exact absurd h (by simp)
    | 52, _ =>
      exact n_join 620 [⟨1, 0, 0, 0, 0, 0, 0⟩, ⟨4, 0, 0, 0, 0, 0, 0⟩, ⟨4, 0, 0, 1, 0, 0, 0⟩, ⟨5, 0, 0, 0, 1, 0, 0⟩, ⟨7, 0, 0, 0, 1, 0, 0⟩, ⟨8, 0, 0, 0, 0, 0, 0⟩, ⟨8, 0, 0, 3, 0, 0, 0⟩, ⟨9, 0, 0, 1, 0, 0, 0⟩] (opAtW ho (by kernel_rfl)) (hW 51 (by kernel_rfl)) (by decide) (by decide) rfl (fun u w' hb' hs => hK u w' hb' hs)
    | 53, _ =>
      exact n_bad HC (HC.below W w ht hb) 621 true (opAtW ho (by kernel_rfl)) (hW 52 (by kernel_rfl)) (by decide) (by decide) (by kernel_rfl) (fun w' hb' => hK _ w' hb' rfl)
    | 54, _ =>
      exact u_notT 622 (opAtW ho (by kernel_rfl)) (hW 53 (by kernel_rfl)) (hK _ _ (Below.refl _ _) rfl)
    | 55, _ =>
      exact v_orF 614 623 (opAtW ho (by kernel_rfl)) (hW 45 (by kernel_rfl)) (hW 54 (by kernel_rfl)) (hK _ _ (Below.refl _ _) rfl)
    | 56, _ =>
      exact v_move 624 (opAtW ho (by kernel_rfl)) (hW 55 (by kernel_rfl)) (hK _ _ (Below.refl _ _) rfl)
    | 57, _ =>
      exact n_load 6 (opAtW ho (by kernel_rfl)) (q6 a w hT hb) (hK _ _ (Below.refl _ _) rfl)
    | 58, _ =>
      exact n_load 9 (opAtW ho (by kernel_rfl)) (q9 a w hT hb) (hK _ _ (Below.refl _ _) rfl)
    | 59, _ =>
      exact o_ev (opAtW ho (by kernel_rfl)) (ev_any (5) (0) (1) w) (fun w' hb' => hK _ w' hb' rfl)
    | 60, _ =>
      exact o_ev (opAtW ho (by kernel_rfl)) (ev_any (7) (0) (1) w) (fun w' hb' => hK _ w' hb' rfl)
    | 61, _ =>
      exact o_ev (opAtW ho (by kernel_rfl)) (ev_any (8) (1) (0) w) (fun w' hb' => hK _ w' hb' rfl)
    | 62, _ =>
      have p626 : a.tmps[626]?.getD undef = evV ⟨1, 0, 0, 0, 0, 0, 0⟩ := (hW 57 (by kernel_rfl))
      have p627 : a.tmps[627]?.getD undef = evV ⟨4, 0, 0, 0, 0, 0, 0⟩ := (hW 58 (by kernel_rfl))
      have p628 : a.tmps[628]?.getD undef = evV ⟨5, 0, 0, 0, 1, 0, 0⟩ := (hW 59 (by kernel_rfl))
      have p629 : a.tmps[629]?.getD undef = evV ⟨7, 0, 0, 0, 1, 0, 0⟩ := (hW 60 (by kernel_rfl))
      have p630 : a.tmps[630]?.getD undef = evV ⟨8, 0, 0, 1, 0, 0, 0⟩ := (hW 61 (by kernel_rfl))
      exact n_slice [⟨1, 0, 0, 0, 0, 0, 0⟩, ⟨4, 0, 0, 0, 0, 0, 0⟩, ⟨5, 0, 0, 0, 1, 0, 0⟩, ⟨7, 0, 0, 0, 1, 0, 0⟩, ⟨8, 0, 0, 1, 0, 0, 0⟩] #[(0, .tmp 626), (1, .tmp 627), (2, .tmp 628), (3, .tmp 629), (4, .tmp 630)] (opAtW ho (by kernel_rfl)) rfl (by kernel_rfl) (by decide) (by decide) (by simp [Act.eval, p626, p627, p628, p629, p630]) (fun v w' hb' hs => hK v w' hb' hs)
    | 63, _ =>
      exact n_bad HC (HC.below W w ht hb) 631 true (opAtW ho (by kernel_rfl)) (hW 62 (by kernel_rfl)) (by decide) (by decide) (by kernel_rfl) (fun w' hb' => hK _ w' hb' rfl)
    | 64, _ =>
      exact u_notT 632 (opAtW ho (by kernel_rfl)) (hW 63 (by kernel_rfl)) (hK _ _ (Below.refl _ _) rfl)
    | 65, _ =>
      exact v_orF 625 633 (opAtW ho (by kernel_rfl)) (hW 56 (by kernel_rfl)) (hW 64 (by kernel_rfl)) (hK _ _ (Below.refl _ _) rfl)
    | i + 66, h => exact absurd (show i + 66 < 66 from h) (by omega)
  · intro us w hu hb hS
    have hat : ∀ j (hj : j < sn45_ds.length), (putAll T0 sn45_ds us)[sn45_ds[j]]?.getD undef = us.getD j undef := fun j hj => by
      rw [putAll_at T0 sn45_ds us j hj hu.symm (by decide) (hlt _ (List.getElem_mem hj)), ← List.getD_eq_getElem?_getD]
    have r634 := hS 65 (by decide)
    rw [← hat 65 (by decide)] at r634
    exact hend _ w (by rw [putAll_size]; exact hsz) hb (fun x hx => putAll_far sn45_ds us T0 x hx) r634
noncomputable def sn47_ops : Array Oper := opsW Tryd.f3 47
def sn47_ds : List Nat := [635, 636, 637, 638, 639, 23]
def sn47_S : Nat → Value → World → Prop
  | 0, v, w => v = evV ⟨1, 0, 0, 0, 0, 0, 0⟩
  | 1, v, w => v = evV ⟨4, 0, 0, 0, 0, 0, 0⟩
  | 2, v, w => v = evV ⟨10, 0, 0, 0, 0, 0, 6⟩
  | 3, v, w => SlA [⟨1, 0, 0, 0, 0, 0, 0⟩, ⟨4, 0, 0, 0, 0, 0, 0⟩, ⟨10, 0, 0, 0, 0, 0, 6⟩] (v) w
  | 4, v, w => SlA [⟨1, 0, 0, 0, 0, 0, 0⟩, ⟨4, 0, 0, 0, 0, 0, 0⟩, ⟨10, 0, 0, 0, 0, 0, 6⟩] (v) w
  | 5, v, w => SlA [⟨1, 0, 0, 0, 0, 0, 0⟩, ⟨4, 0, 0, 0, 0, 0, 0⟩, ⟨10, 0, 0, 0, 0, 0, 6⟩] (v) w
  | _ + 6, _, _ => False
theorem sn47_mono (i : Nat) (v : Value) (w w' : World) (b : Below w.heap.size w w') (h : sn47_S i v w) : sn47_S i v w' := by
  match i, h with
  | 0, h => exact h
  | 1, h => exact h
  | 2, h => exact h
  | 3, h => exact SlA.stays h b
  | 4, h => exact SlA.stays h b
  | 5, h => exact SlA.stays h b
set_option maxRecDepth 100000 in
set_option maxHeartbeats 4000000 in
theorem sn47 {Tb : World → Prop} (HC : CheckC Tb) {id : Nat} {ops : Array Oper} (hops : ops = sn47_ops) (T0 : Array Value) (hsz : T0.size = 726) (W : World) (ht : Tb W) (p6 : PtE ⟨1, 0, 0, 0, 0, 0, 0⟩ (T0[6]?.getD undef) W) (p9 : PtE ⟨4, 0, 0, 0, 0, 0, 0⟩ (T0[9]?.getD undef) W) {Q : Exit → Act → World → Prop}
    (hend : ∀ (T : Array Value) (w : World), T.size = 726 → Below W.heap.size W w → (∀ x, x ∉ sn47_ds → T[x]? = T0[x]?) → SlA [⟨1, 0, 0, 0, 0, 0, 0⟩, ⟨4, 0, 0, 0, 0, 0, 0⟩, ⟨10, 0, 0, 0, 0, 0, 6⟩] (T[23]?.getD undef) w → Q .normal ⟨T, []⟩ w) : (Code.region id ops true).wp Tryd.prog Q ⟨T0, []⟩ W := by
  subst hops
  have hos : sn47_ops.size = 6 := by kernel_rfl
  have hga : (List.range 6).all (fun i => match sn47_ops[i]? with | some o => o.guard == ([none, none, none, none, none, none] : List (Option (Nat × Bool))).getD i none | none => false) = true := by kernel_rfl
  have q6 : ∀ (a : Act) (w : World), (∀ t, t ∉ sn47_ds → a.tmps[t]?.getD undef = T0[t]?.getD undef) → Below W.heap.size W w → PtE ⟨1, 0, 0, 0, 0, 0, 0⟩ (a.tmps[6]?.getD undef) w := fun a w hT hb => by rw [hT 6 (by decide)]; exact PtE.stays p6 hb
  have q9 : ∀ (a : Act) (w : World), (∀ t, t ∉ sn47_ds → a.tmps[t]?.getD undef = T0[t]?.getD undef) → Below W.heap.size W w → PtE ⟨4, 0, 0, 0, 0, 0, 0⟩ (a.tmps[9]?.getD undef) w := fun a w hT hb => by rw [hT 9 (by decide)]; exact PtE.stays p9 hb
  have hlt : ∀ x ∈ sn47_ds, x < T0.size := fun x hx => by
    have hall : (sn47_ds.all fun d => decide (d < 726)) = true := by decide
    have := List.all_eq_true.1 hall x hx
    simp only [decide_eq_true_eq] at this
    omega
  refine wp_region_kinds3 sn47_S sn47_ds W T0 (by decide) hlt (by kernel_rfl) (by kernel_rfl) (fun i o j want ho hgd => ?_) sn47_mono ?_ ?_
  · have hi : i < 6 := by rw [← hos]; exact (Array.getElem?_eq_some_iff.1 ho).1
    have h1 := List.all_eq_true.1 hga i (by simpa using hi)
    rw [ho] at h1
    simp only [hgd, beq_iff_eq] at h1
    match i, hi with
    | 0, _ => cases h1
    | 1, _ => cases h1
    | 2, _ => cases h1
    | 3, _ => cases h1
    | 4, _ => cases h1
    | 5, _ => cases h1
    | i + 6, h => exact absurd (show i + 6 < 6 from h) (by omega)
  · intro i o ho hi a w hT hW hb K hK
    match i, hi with
    | 0, _ =>
      exact n_load 6 (opAtW ho (by kernel_rfl)) (q6 a w hT hb) (hK _ _ (Below.refl _ _) rfl)
    | 1, _ =>
      exact n_load 9 (opAtW ho (by kernel_rfl)) (q9 a w hT hb) (hK _ _ (Below.refl _ _) rfl)
    | 2, _ =>
      exact o_why (opAtW ho (by kernel_rfl)) (why_any 6 0 w) (fun w' hb' => hK _ w' hb' rfl)
    | 3, _ =>
      have p635 : a.tmps[635]?.getD undef = evV ⟨1, 0, 0, 0, 0, 0, 0⟩ := (hW 0 (by kernel_rfl))
      have p636 : a.tmps[636]?.getD undef = evV ⟨4, 0, 0, 0, 0, 0, 0⟩ := (hW 1 (by kernel_rfl))
      have p637 : a.tmps[637]?.getD undef = evV ⟨10, 0, 0, 0, 0, 0, 6⟩ := (hW 2 (by kernel_rfl))
      exact n_slice [⟨1, 0, 0, 0, 0, 0, 0⟩, ⟨4, 0, 0, 0, 0, 0, 0⟩, ⟨10, 0, 0, 0, 0, 0, 6⟩] #[(0, .tmp 635), (1, .tmp 636), (2, .tmp 637)] (opAtW ho (by kernel_rfl)) rfl (by kernel_rfl) (by decide) (by decide) (by simp [Act.eval, p635, p636, p637]) (fun v w' hb' hs => hK v w' hb' hs)
    | 4, _ =>
      exact n_many 638 (opAtW ho (by kernel_rfl)) (hW 3 (by kernel_rfl)) (fun u w' hb' hs => hK u w' hb' hs)
    | 5, _ =>
      exact v_assign 639 (opAtW ho (by kernel_rfl)) rfl (hK _ _ (Below.refl _ _) (hW 4 (by kernel_rfl)))
    | i + 6, h => exact absurd (show i + 6 < 6 from h) (by omega)
  · intro us w hu hb hS
    have hat : ∀ j (hj : j < sn47_ds.length), (putAll T0 sn47_ds us)[sn47_ds[j]]?.getD undef = us.getD j undef := fun j hj => by
      rw [putAll_at T0 sn47_ds us j hj hu.symm (by decide) (hlt _ (List.getElem_mem hj)), ← List.getD_eq_getElem?_getD]
    have r23 := hS 5 (by decide)
    rw [← hat 5 (by decide)] at r23
    exact hend _ w (by rw [putAll_size]; exact hsz) hb (fun x hx => putAll_far sn47_ds us T0 x hx) r23
end Go.Proofs.YtjennlkindbpoaaDoor
/-
  FOR ShapeNames: its regions 48, 50, 51, by kinds. Laid by gen/gen_sn.py. Conditions: CheckC.
-/
namespace Go.Proofs.YtjennlkindbpoaaDoor
set_option maxRecDepth 100000
open Go.RowKit Go.Deep
set_option linter.unusedVariables false

noncomputable def sn48_ops : Array Oper := opsW Tryd.f3 48
def sn48_ds : List Nat := [640, 641, 642, 643, 644, 645, 646, 647, 648, 649, 650, 651, 652, 653, 654, 655, 656, 657, 658, 659, 660, 661, 662, 663, 664, 665, 666, 667, 668, 669, 670, 671, 672, 673, 674, 675, 676, 677, 678, 679, 680, 681, 682, 683, 684]
def sn48_S : Nat → Value → World → Prop
  | 0, v, w => v = evV ⟨1, 0, 0, 0, 0, 0, 0⟩
  | 1, v, w => v = evV ⟨10, 0, 0, 0, 0, 0, 6⟩
  | 2, v, w => SlA [⟨1, 0, 0, 0, 0, 0, 0⟩, ⟨10, 0, 0, 0, 0, 0, 6⟩] (v) w
  | 3, v, w => v = .bool true
  | 4, v, w => v = .bool false
  | 5, v, w => v = .bool false
  | 6, v, w => SlA [⟨1, 0, 0, 0, 0, 0, 0⟩, ⟨4, 0, 0, 0, 0, 0, 0⟩, ⟨10, 0, 0, 0, 0, 0, 6⟩] (v) w
  | 7, v, w => v = evV ⟨11, 0, 0, 0, 0, 0, 0⟩
  | 8, v, w => SlA [⟨11, 0, 0, 0, 0, 0, 0⟩] (v) w
  | 9, v, w => SlA [⟨11, 0, 0, 0, 0, 0, 0⟩] (v) w
  | 10, v, w => LsA [[⟨1, 0, 0, 0, 0, 0, 0⟩, ⟨4, 0, 0, 0, 0, 0, 0⟩, ⟨10, 0, 0, 0, 0, 0, 6⟩], [⟨11, 0, 0, 0, 0, 0, 0⟩]] (v) w
  | 11, v, w => SlA [⟨1, 0, 0, 0, 0, 0, 0⟩, ⟨4, 0, 0, 0, 0, 0, 0⟩, ⟨10, 0, 0, 0, 0, 0, 6⟩, ⟨11, 0, 0, 0, 0, 0, 0⟩] (v) w
  | 12, v, w => TrA 3 4 2 [⟨1, 0, 0, 0, 0, 0, 0⟩, ⟨4, 0, 0, 0, 0, 0, 0⟩, ⟨10, 0, 0, 0, 0, 0, 6⟩, ⟨11, 0, 0, 0, 0, 0, 0⟩] (v) w
  | 13, v, w => v = .bool true
  | 14, v, w => v = .bool false
  | 15, v, w => v = .bool false
  | 16, v, w => v = .bool false
  | 17, v, w => SlA [⟨1, 0, 0, 0, 0, 0, 0⟩, ⟨4, 0, 0, 0, 0, 0, 0⟩, ⟨10, 0, 0, 0, 0, 0, 6⟩] (v) w
  | 18, v, w => v = evV ⟨11, 0, 0, 0, 0, 0, 0⟩
  | 19, v, w => v = evV ⟨1, 0, 0, 0, 0, 0, 0⟩
  | 20, v, w => SlA [⟨11, 0, 0, 0, 0, 0, 0⟩, ⟨1, 0, 0, 0, 0, 0, 0⟩] (v) w
  | 21, v, w => SlA [⟨11, 0, 0, 0, 0, 0, 0⟩, ⟨1, 0, 0, 0, 0, 0, 0⟩] (v) w
  | 22, v, w => LsA [[⟨1, 0, 0, 0, 0, 0, 0⟩, ⟨4, 0, 0, 0, 0, 0, 0⟩, ⟨10, 0, 0, 0, 0, 0, 6⟩], [⟨11, 0, 0, 0, 0, 0, 0⟩, ⟨1, 0, 0, 0, 0, 0, 0⟩]] (v) w
  | 23, v, w => SlA [⟨1, 0, 0, 0, 0, 0, 0⟩, ⟨4, 0, 0, 0, 0, 0, 0⟩, ⟨10, 0, 0, 0, 0, 0, 6⟩, ⟨11, 0, 0, 0, 0, 0, 0⟩, ⟨1, 0, 0, 0, 0, 0, 0⟩] (v) w
  | 24, v, w => v = .bool true
  | 25, v, w => v = .bool false
  | 26, v, w => v = .bool false
  | 27, v, w => v = .bool false
  | 28, v, w => SlA [⟨1, 0, 0, 0, 0, 0, 0⟩, ⟨4, 0, 0, 0, 0, 0, 0⟩, ⟨10, 0, 0, 0, 0, 0, 6⟩] (v) w
  | 29, v, w => v = evV ⟨11, 0, 0, 1, 0, 0, 0⟩
  | 30, v, w => SlA [⟨11, 0, 0, 1, 0, 0, 0⟩] (v) w
  | 31, v, w => SlA [⟨11, 0, 0, 1, 0, 0, 0⟩] (v) w
  | 32, v, w => LsA [[⟨1, 0, 0, 0, 0, 0, 0⟩, ⟨4, 0, 0, 0, 0, 0, 0⟩, ⟨10, 0, 0, 0, 0, 0, 6⟩], [⟨11, 0, 0, 1, 0, 0, 0⟩]] (v) w
  | 33, v, w => SlA [⟨1, 0, 0, 0, 0, 0, 0⟩, ⟨4, 0, 0, 0, 0, 0, 0⟩, ⟨10, 0, 0, 0, 0, 0, 6⟩, ⟨11, 0, 0, 1, 0, 0, 0⟩] (v) w
  | 34, v, w => v = .bool true
  | 35, v, w => v = .bool false
  | 36, v, w => v = .bool false
  | 37, v, w => v = .bool false
  | 38, v, w => v = evV ⟨1, 0, 0, 0, 0, 0, 0⟩
  | 39, v, w => v = evV ⟨12, 0, 0, 0, 0, 0, 0⟩
  | 40, v, w => v = evV ⟨13, 0, 0, 0, 0, 0, 0⟩
  | 41, v, w => SlA [⟨1, 0, 0, 0, 0, 0, 0⟩, ⟨12, 0, 0, 0, 0, 0, 0⟩, ⟨13, 0, 0, 0, 0, 0, 0⟩] (v) w
  | 42, v, w => v = .bool true
  | 43, v, w => v = .bool false
  | 44, v, w => v = .bool false
  | _ + 45, _, _ => False
theorem sn48_mono (i : Nat) (v : Value) (w w' : World) (b : Below w.heap.size w w') (h : sn48_S i v w) : sn48_S i v w' := by
  match i, h with
  | 0, h => exact h
  | 1, h => exact h
  | 2, h => exact SlA.stays h b
  | 3, h => exact h
  | 4, h => exact h
  | 5, h => exact h
  | 6, h => exact SlA.stays h b
  | 7, h => exact h
  | 8, h => exact SlA.stays h b
  | 9, h => exact SlA.stays h b
  | 10, h => exact LsA.stays h b
  | 11, h => exact SlA.stays h b
  | 12, h => exact TrA.stays h b
  | 13, h => exact h
  | 14, h => exact h
  | 15, h => exact h
  | 16, h => exact h
  | 17, h => exact SlA.stays h b
  | 18, h => exact h
  | 19, h => exact h
  | 20, h => exact SlA.stays h b
  | 21, h => exact SlA.stays h b
  | 22, h => exact LsA.stays h b
  | 23, h => exact SlA.stays h b
  | 24, h => exact h
  | 25, h => exact h
  | 26, h => exact h
  | 27, h => exact h
  | 28, h => exact SlA.stays h b
  | 29, h => exact h
  | 30, h => exact SlA.stays h b
  | 31, h => exact SlA.stays h b
  | 32, h => exact LsA.stays h b
  | 33, h => exact SlA.stays h b
  | 34, h => exact h
  | 35, h => exact h
  | 36, h => exact h
  | 37, h => exact h
  | 38, h => exact h
  | 39, h => exact h
  | 40, h => exact h
  | 41, h => exact SlA.stays h b
  | 42, h => exact h
  | 43, h => exact h
  | 44, h => exact h
set_option maxRecDepth 100000 in
set_option maxHeartbeats 4000000 in
theorem sn48 {Tb : World → Prop} (HC : CheckC Tb) {id : Nat} {ops : Array Oper} (hops : ops = sn48_ops) (T0 : Array Value) (hsz : T0.size = 726) (W : World) (ht : Tb W) (p6 : PtE ⟨1, 0, 0, 0, 0, 0, 0⟩ (T0[6]?.getD undef) W) (p23 : SlA [⟨1, 0, 0, 0, 0, 0, 0⟩, ⟨4, 0, 0, 0, 0, 0, 0⟩, ⟨10, 0, 0, 0, 0, 0, 6⟩] (T0[23]?.getD undef) W) {Q : Exit → Act → World → Prop}
    (hend : ∀ (T : Array Value) (w : World), T.size = 726 → Below W.heap.size W w → (∀ x, x ∉ sn48_ds → T[x]? = T0[x]?) → T[684]?.getD undef = .bool false → Q .normal ⟨T, []⟩ w) : (Code.region id ops true).wp Tryd.prog Q ⟨T0, []⟩ W := by
  subst hops
  have hos : sn48_ops.size = 45 := by kernel_rfl
  have hga : (List.range 45).all (fun i => match sn48_ops[i]? with | some o => o.guard == ([none, none, none, none, none, none, some (5, false), some (5, false), some (5, false), some (5, false), some (5, false), some (5, false), some (5, false), some (5, false), some (5, false), none, none, some (16, false), some (16, false), some (16, false), some (16, false), some (16, false), some (16, false), some (16, false), some (16, false), some (16, false), none, none, some (27, false), some (27, false), some (27, false), some (27, false), some (27, false), some (27, false), some (27, false), some (27, false), none, none, some (37, false), some (37, false), some (37, false), some (37, false), some (37, false), some (37, false), none] : List (Option (Nat × Bool))).getD i none | none => false) = true := by kernel_rfl
  have q6 : ∀ (a : Act) (w : World), (∀ t, t ∉ sn48_ds → a.tmps[t]?.getD undef = T0[t]?.getD undef) → Below W.heap.size W w → PtE ⟨1, 0, 0, 0, 0, 0, 0⟩ (a.tmps[6]?.getD undef) w := fun a w hT hb => by rw [hT 6 (by decide)]; exact PtE.stays p6 hb
  have q23 : ∀ (a : Act) (w : World), (∀ t, t ∉ sn48_ds → a.tmps[t]?.getD undef = T0[t]?.getD undef) → Below W.heap.size W w → SlA [⟨1, 0, 0, 0, 0, 0, 0⟩, ⟨4, 0, 0, 0, 0, 0, 0⟩, ⟨10, 0, 0, 0, 0, 0, 6⟩] (a.tmps[23]?.getD undef) w := fun a w hT hb => by rw [hT 23 (by decide)]; exact SlA.stays p23 hb
  have hlt : ∀ x ∈ sn48_ds, x < T0.size := fun x hx => by
    have hall : (sn48_ds.all fun d => decide (d < 726)) = true := by decide
    have := List.all_eq_true.1 hall x hx
    simp only [decide_eq_true_eq] at this
    omega
  refine wp_region_kinds3 sn48_S sn48_ds W T0 (by decide) hlt (by kernel_rfl) (by kernel_rfl) (fun i o j want ho hgd => ?_) sn48_mono ?_ ?_
  · have hi : i < 45 := by rw [← hos]; exact (Array.getElem?_eq_some_iff.1 ho).1
    have h1 := List.all_eq_true.1 hga i (by simpa using hi)
    rw [ho] at h1
    simp only [hgd, beq_iff_eq] at h1
    match i, hi with
    | 0, _ => cases h1
    | 1, _ => cases h1
    | 2, _ => cases h1
    | 3, _ => cases h1
    | 4, _ => cases h1
    | 5, _ => cases h1
    | 6, _ => obtain ⟨rfl, rfl⟩ := Prod.mk.inj (Option.some.inj h1); exact fun v w h => h
    | 7, _ => obtain ⟨rfl, rfl⟩ := Prod.mk.inj (Option.some.inj h1); exact fun v w h => h
    | 8, _ => obtain ⟨rfl, rfl⟩ := Prod.mk.inj (Option.some.inj h1); exact fun v w h => h
    | 9, _ => obtain ⟨rfl, rfl⟩ := Prod.mk.inj (Option.some.inj h1); exact fun v w h => h
    | 10, _ => obtain ⟨rfl, rfl⟩ := Prod.mk.inj (Option.some.inj h1); exact fun v w h => h
    | 11, _ => obtain ⟨rfl, rfl⟩ := Prod.mk.inj (Option.some.inj h1); exact fun v w h => h
    | 12, _ => obtain ⟨rfl, rfl⟩ := Prod.mk.inj (Option.some.inj h1); exact fun v w h => h
    | 13, _ => obtain ⟨rfl, rfl⟩ := Prod.mk.inj (Option.some.inj h1); exact fun v w h => h
    | 14, _ => obtain ⟨rfl, rfl⟩ := Prod.mk.inj (Option.some.inj h1); exact fun v w h => h
    | 15, _ => cases h1
    | 16, _ => cases h1
    | 17, _ => obtain ⟨rfl, rfl⟩ := Prod.mk.inj (Option.some.inj h1); exact fun v w h => h
    | 18, _ => obtain ⟨rfl, rfl⟩ := Prod.mk.inj (Option.some.inj h1); exact fun v w h => h
    | 19, _ => obtain ⟨rfl, rfl⟩ := Prod.mk.inj (Option.some.inj h1); exact fun v w h => h
    | 20, _ => obtain ⟨rfl, rfl⟩ := Prod.mk.inj (Option.some.inj h1); exact fun v w h => h
    | 21, _ => obtain ⟨rfl, rfl⟩ := Prod.mk.inj (Option.some.inj h1); exact fun v w h => h
    | 22, _ => obtain ⟨rfl, rfl⟩ := Prod.mk.inj (Option.some.inj h1); exact fun v w h => h
    | 23, _ => obtain ⟨rfl, rfl⟩ := Prod.mk.inj (Option.some.inj h1); exact fun v w h => h
    | 24, _ => obtain ⟨rfl, rfl⟩ := Prod.mk.inj (Option.some.inj h1); exact fun v w h => h
    | 25, _ => obtain ⟨rfl, rfl⟩ := Prod.mk.inj (Option.some.inj h1); exact fun v w h => h
    | 26, _ => cases h1
    | 27, _ => cases h1
    | 28, _ => obtain ⟨rfl, rfl⟩ := Prod.mk.inj (Option.some.inj h1); exact fun v w h => h
    | 29, _ => obtain ⟨rfl, rfl⟩ := Prod.mk.inj (Option.some.inj h1); exact fun v w h => h
    | 30, _ => obtain ⟨rfl, rfl⟩ := Prod.mk.inj (Option.some.inj h1); exact fun v w h => h
    | 31, _ => obtain ⟨rfl, rfl⟩ := Prod.mk.inj (Option.some.inj h1); exact fun v w h => h
    | 32, _ => obtain ⟨rfl, rfl⟩ := Prod.mk.inj (Option.some.inj h1); exact fun v w h => h
    | 33, _ => obtain ⟨rfl, rfl⟩ := Prod.mk.inj (Option.some.inj h1); exact fun v w h => h
    | 34, _ => obtain ⟨rfl, rfl⟩ := Prod.mk.inj (Option.some.inj h1); exact fun v w h => h
    | 35, _ => obtain ⟨rfl, rfl⟩ := Prod.mk.inj (Option.some.inj h1); exact fun v w h => h
    | 36, _ => cases h1
    | 37, _ => cases h1
    | 38, _ => obtain ⟨rfl, rfl⟩ := Prod.mk.inj (Option.some.inj h1); exact fun v w h => h
    | 39, _ => obtain ⟨rfl, rfl⟩ := Prod.mk.inj (Option.some.inj h1); exact fun v w h => h
    | 40, _ => obtain ⟨rfl, rfl⟩ := Prod.mk.inj (Option.some.inj h1); exact fun v w h => h
    | 41, _ => obtain ⟨rfl, rfl⟩ := Prod.mk.inj (Option.some.inj h1); exact fun v w h => h
    | 42, _ => obtain ⟨rfl, rfl⟩ := Prod.mk.inj (Option.some.inj h1); exact fun v w h => h
    | 43, _ => obtain ⟨rfl, rfl⟩ := Prod.mk.inj (Option.some.inj h1); exact fun v w h => h
    | 44, _ => cases h1
    | i + 45, h => exact absurd (show i + 45 < 45 from h) (by omega)
  · intro i o ho hi a w hT hW hb K hK
    match i, hi with
    | 0, _ =>
      exact n_load 6 (opAtW ho (by kernel_rfl)) (q6 a w hT hb) (hK _ _ (Below.refl _ _) rfl)
    | 1, _ =>
      exact o_why (opAtW ho (by kernel_rfl)) (why_any 6 0 w) (fun w' hb' => hK _ w' hb' rfl)
    | 2, _ =>
      have p640 : a.tmps[640]?.getD undef = evV ⟨1, 0, 0, 0, 0, 0, 0⟩ := (hW 0 (by kernel_rfl))
      have p641 : a.tmps[641]?.getD undef = evV ⟨10, 0, 0, 0, 0, 0, 6⟩ := (hW 1 (by kernel_rfl))
      exact n_slice [⟨1, 0, 0, 0, 0, 0, 0⟩, ⟨10, 0, 0, 0, 0, 0, 6⟩] #[(0, .tmp 640), (1, .tmp 641)] (opAtW ho (by kernel_rfl)) rfl (by kernel_rfl) (by decide) (by decide) (by simp [Act.eval, p640, p641]) (fun v w' hb' hs => hK v w' hb' hs)
    | 3, _ =>
      exact n_bad HC (HC.below W w ht hb) 642 true (opAtW ho (by kernel_rfl)) (hW 2 (by kernel_rfl)) (by decide) (by decide) (by kernel_rfl) (fun w' hb' => hK _ w' hb' rfl)
    | 4, _ =>
      exact u_notT 643 (opAtW ho (by kernel_rfl)) (hW 3 (by kernel_rfl)) (hK _ _ (Below.refl _ _) rfl)
    | 5, _ =>
      exact v_move 644 (opAtW ho (by kernel_rfl)) (hW 4 (by kernel_rfl)) (hK _ _ (Below.refl _ _) rfl)
    | 6, _ =>
      exact v_move 23 (opAtW ho (by kernel_rfl)) rfl (hK _ _ (Below.refl _ _) (q23 a w hT hb))
    | 7, _ =>
      exact o_ev (opAtW ho (by kernel_rfl)) (ev_any (11) (0) (0) w) (fun w' hb' => hK _ w' hb' rfl)
    | 8, _ =>
      have p647 : a.tmps[647]?.getD undef = evV ⟨11, 0, 0, 0, 0, 0, 0⟩ := (hW 7 (by kernel_rfl))
      exact n_slice [⟨11, 0, 0, 0, 0, 0, 0⟩] #[(0, .tmp 647)] (opAtW ho (by kernel_rfl)) rfl (by kernel_rfl) (by decide) (by decide) (by simp [Act.eval, p647]) (fun v w' hb' hs => hK v w' hb' hs)
    | 9, _ =>
      exact n_many 648 (opAtW ho (by kernel_rfl)) (hW 8 (by kernel_rfl)) (fun u w' hb' hs => hK u w' hb' hs)
    | 10, _ =>
      have p646 : SlA [⟨1, 0, 0, 0, 0, 0, 0⟩, ⟨4, 0, 0, 0, 0, 0, 0⟩, ⟨10, 0, 0, 0, 0, 0, 6⟩] (a.tmps[646]?.getD undef) w := (hW 6 (by kernel_rfl))
      have p649 : SlA [⟨11, 0, 0, 0, 0, 0, 0⟩] (a.tmps[649]?.getD undef) w := (hW 9 (by kernel_rfl))
      refine n_lists [[⟨1, 0, 0, 0, 0, 0, 0⟩, ⟨4, 0, 0, 0, 0, 0, 0⟩, ⟨10, 0, 0, 0, 0, 0, 6⟩], [⟨11, 0, 0, 0, 0, 0, 0⟩]] [a.tmps[646]?.getD undef, a.tmps[649]?.getD undef] #[(0, .tmp 646), (1, .tmp 649)] (opAtW ho (by kernel_rfl)) rfl rfl (by decide) (by decide) (fun j h => ?_) (by simp [Act.eval]) (fun v w' hb' hs => hK v w' hb' hs)
      match j, h with
      | 0, _ => exact p646
      | 1, _ => exact p649
      | j + 2, h => exact absurd h (by simp)
    | 11, _ =>
      exact n_join 650 [⟨1, 0, 0, 0, 0, 0, 0⟩, ⟨4, 0, 0, 0, 0, 0, 0⟩, ⟨10, 0, 0, 0, 0, 0, 6⟩, ⟨11, 0, 0, 0, 0, 0, 0⟩] (opAtW ho (by kernel_rfl)) (hW 10 (by kernel_rfl)) (by decide) (by decide) rfl (fun u w' hb' hs => hK u w' hb' hs)
    | 12, _ =>
      exact n_over 651 (opAtW ho (by kernel_rfl)) (hW 11 (by kernel_rfl)) (fun u w' hb' hs => hK u w' hb' hs)
    | 13, _ =>
      exact n_fine HC (HC.below W w ht hb) 652 true (opAtW ho (by kernel_rfl)) (hW 12 (by kernel_rfl)) (by decide) (by decide) (by decide) (by decide) (by kernel_rfl) (fun w' hb' => hK _ w' hb' rfl)
    | 14, _ =>
      exact u_notT 653 (opAtW ho (by kernel_rfl)) (hW 13 (by kernel_rfl)) (hK _ _ (Below.refl _ _) rfl)
    | 15, _ =>
      exact v_orF 645 654 (opAtW ho (by kernel_rfl)) (hW 5 (by kernel_rfl)) (hW 14 (by kernel_rfl)) (hK _ _ (Below.refl _ _) rfl)
    | 16, _ =>
      exact v_move 655 (opAtW ho (by kernel_rfl)) (hW 15 (by kernel_rfl)) (hK _ _ (Below.refl _ _) rfl)
    | 17, _ =>
      exact v_move 23 (opAtW ho (by kernel_rfl)) rfl (hK _ _ (Below.refl _ _) (q23 a w hT hb))
    | 18, _ =>
      exact o_ev (opAtW ho (by kernel_rfl)) (ev_any (11) (0) (0) w) (fun w' hb' => hK _ w' hb' rfl)
    | 19, _ =>
      exact n_load 6 (opAtW ho (by kernel_rfl)) (q6 a w hT hb) (hK _ _ (Below.refl _ _) rfl)
    | 20, _ =>
      have p658 : a.tmps[658]?.getD undef = evV ⟨11, 0, 0, 0, 0, 0, 0⟩ := (hW 18 (by kernel_rfl))
      have p659 : a.tmps[659]?.getD undef = evV ⟨1, 0, 0, 0, 0, 0, 0⟩ := (hW 19 (by kernel_rfl))
      exact n_slice [⟨11, 0, 0, 0, 0, 0, 0⟩, ⟨1, 0, 0, 0, 0, 0, 0⟩] #[(0, .tmp 658), (1, .tmp 659)] (opAtW ho (by kernel_rfl)) rfl (by kernel_rfl) (by decide) (by decide) (by simp [Act.eval, p658, p659]) (fun v w' hb' hs => hK v w' hb' hs)
    | 21, _ =>
      exact n_many 660 (opAtW ho (by kernel_rfl)) (hW 20 (by kernel_rfl)) (fun u w' hb' hs => hK u w' hb' hs)
    | 22, _ =>
      have p657 : SlA [⟨1, 0, 0, 0, 0, 0, 0⟩, ⟨4, 0, 0, 0, 0, 0, 0⟩, ⟨10, 0, 0, 0, 0, 0, 6⟩] (a.tmps[657]?.getD undef) w := (hW 17 (by kernel_rfl))
      have p661 : SlA [⟨11, 0, 0, 0, 0, 0, 0⟩, ⟨1, 0, 0, 0, 0, 0, 0⟩] (a.tmps[661]?.getD undef) w := (hW 21 (by kernel_rfl))
      refine n_lists [[⟨1, 0, 0, 0, 0, 0, 0⟩, ⟨4, 0, 0, 0, 0, 0, 0⟩, ⟨10, 0, 0, 0, 0, 0, 6⟩], [⟨11, 0, 0, 0, 0, 0, 0⟩, ⟨1, 0, 0, 0, 0, 0, 0⟩]] [a.tmps[657]?.getD undef, a.tmps[661]?.getD undef] #[(0, .tmp 657), (1, .tmp 661)] (opAtW ho (by kernel_rfl)) rfl rfl (by decide) (by decide) (fun j h => ?_) (by simp [Act.eval]) (fun v w' hb' hs => hK v w' hb' hs)
      match j, h with
      | 0, _ => exact p657
      | 1, _ => exact p661
      | j + 2, h => exact absurd h (by simp)
    | 23, _ =>
      exact n_join 662 [⟨1, 0, 0, 0, 0, 0, 0⟩, ⟨4, 0, 0, 0, 0, 0, 0⟩, ⟨10, 0, 0, 0, 0, 0, 6⟩, ⟨11, 0, 0, 0, 0, 0, 0⟩, ⟨1, 0, 0, 0, 0, 0, 0⟩] (opAtW ho (by kernel_rfl)) (hW 22 (by kernel_rfl)) (by decide) (by decide) rfl (fun u w' hb' hs => hK u w' hb' hs)
    | 24, _ =>
      exact n_bad HC (HC.below W w ht hb) 663 true (opAtW ho (by kernel_rfl)) (hW 23 (by kernel_rfl)) (by decide) (by decide) (by kernel_rfl) (fun w' hb' => hK _ w' hb' rfl)
    | 25, _ =>
      exact u_notT 664 (opAtW ho (by kernel_rfl)) (hW 24 (by kernel_rfl)) (hK _ _ (Below.refl _ _) rfl)
    | 26, _ =>
      exact v_orF 656 665 (opAtW ho (by kernel_rfl)) (hW 16 (by kernel_rfl)) (hW 25 (by kernel_rfl)) (hK _ _ (Below.refl _ _) rfl)
    | 27, _ =>
      exact v_move 666 (opAtW ho (by kernel_rfl)) (hW 26 (by kernel_rfl)) (hK _ _ (Below.refl _ _) rfl)
    | 28, _ =>
      exact v_move 23 (opAtW ho (by kernel_rfl)) rfl (hK _ _ (Below.refl _ _) (q23 a w hT hb))
    | 29, _ =>
      exact o_ev (opAtW ho (by kernel_rfl)) (ev_any (11) (1) (0) w) (fun w' hb' => hK _ w' hb' rfl)
    | 30, _ =>
      have p669 : a.tmps[669]?.getD undef = evV ⟨11, 0, 0, 1, 0, 0, 0⟩ := (hW 29 (by kernel_rfl))
      exact n_slice [⟨11, 0, 0, 1, 0, 0, 0⟩] #[(0, .tmp 669)] (opAtW ho (by kernel_rfl)) rfl (by kernel_rfl) (by decide) (by decide) (by simp [Act.eval, p669]) (fun v w' hb' hs => hK v w' hb' hs)
    | 31, _ =>
      exact n_many 670 (opAtW ho (by kernel_rfl)) (hW 30 (by kernel_rfl)) (fun u w' hb' hs => hK u w' hb' hs)
    | 32, _ =>
      have p668 : SlA [⟨1, 0, 0, 0, 0, 0, 0⟩, ⟨4, 0, 0, 0, 0, 0, 0⟩, ⟨10, 0, 0, 0, 0, 0, 6⟩] (a.tmps[668]?.getD undef) w := (hW 28 (by kernel_rfl))
      have p671 : SlA [⟨11, 0, 0, 1, 0, 0, 0⟩] (a.tmps[671]?.getD undef) w := (hW 31 (by kernel_rfl))
      refine n_lists [[⟨1, 0, 0, 0, 0, 0, 0⟩, ⟨4, 0, 0, 0, 0, 0, 0⟩, ⟨10, 0, 0, 0, 0, 0, 6⟩], [⟨11, 0, 0, 1, 0, 0, 0⟩]] [a.tmps[668]?.getD undef, a.tmps[671]?.getD undef] #[(0, .tmp 668), (1, .tmp 671)] (opAtW ho (by kernel_rfl)) rfl rfl (by decide) (by decide) (fun j h => ?_) (by simp [Act.eval]) (fun v w' hb' hs => hK v w' hb' hs)
      match j, h with
      | 0, _ => exact p668
      | 1, _ => exact p671
      | j + 2, h => exact absurd h (by simp)
    | 33, _ =>
      exact n_join 672 [⟨1, 0, 0, 0, 0, 0, 0⟩, ⟨4, 0, 0, 0, 0, 0, 0⟩, ⟨10, 0, 0, 0, 0, 0, 6⟩, ⟨11, 0, 0, 1, 0, 0, 0⟩] (opAtW ho (by kernel_rfl)) (hW 32 (by kernel_rfl)) (by decide) (by decide) rfl (fun u w' hb' hs => hK u w' hb' hs)
    | 34, _ =>
      exact n_bad HC (HC.below W w ht hb) 673 true (opAtW ho (by kernel_rfl)) (hW 33 (by kernel_rfl)) (by decide) (by decide) (by kernel_rfl) (fun w' hb' => hK _ w' hb' rfl)
    | 35, _ =>
      exact u_notT 674 (opAtW ho (by kernel_rfl)) (hW 34 (by kernel_rfl)) (hK _ _ (Below.refl _ _) rfl)
    | 36, _ =>
      exact v_orF 667 675 (opAtW ho (by kernel_rfl)) (hW 27 (by kernel_rfl)) (hW 35 (by kernel_rfl)) (hK _ _ (Below.refl _ _) rfl)
    | 37, _ =>
      exact v_move 676 (opAtW ho (by kernel_rfl)) (hW 36 (by kernel_rfl)) (hK _ _ (Below.refl _ _) rfl)
    | 38, _ =>
      exact n_load 6 (opAtW ho (by kernel_rfl)) (q6 a w hT hb) (hK _ _ (Below.refl _ _) rfl)
    | 39, _ =>
      exact o_ev (opAtW ho (by kernel_rfl)) (ev_any (12) (0) (0) w) (fun w' hb' => hK _ w' hb' rfl)
    | 40, _ =>
      exact o_ev (opAtW ho (by kernel_rfl)) (ev_any (13) (0) (0) w) (fun w' hb' => hK _ w' hb' rfl)
    | 41, _ =>
      have p678 : a.tmps[678]?.getD undef = evV ⟨1, 0, 0, 0, 0, 0, 0⟩ := (hW 38 (by kernel_rfl))
      have p679 : a.tmps[679]?.getD undef = evV ⟨12, 0, 0, 0, 0, 0, 0⟩ := (hW 39 (by kernel_rfl))
      have p680 : a.tmps[680]?.getD undef = evV ⟨13, 0, 0, 0, 0, 0, 0⟩ := (hW 40 (by kernel_rfl))
      exact n_slice [⟨1, 0, 0, 0, 0, 0, 0⟩, ⟨12, 0, 0, 0, 0, 0, 0⟩, ⟨13, 0, 0, 0, 0, 0, 0⟩] #[(0, .tmp 678), (1, .tmp 679), (2, .tmp 680)] (opAtW ho (by kernel_rfl)) rfl (by kernel_rfl) (by decide) (by decide) (by simp [Act.eval, p678, p679, p680]) (fun v w' hb' hs => hK v w' hb' hs)
    | 42, _ =>
      exact n_bad HC (HC.below W w ht hb) 681 true (opAtW ho (by kernel_rfl)) (hW 41 (by kernel_rfl)) (by decide) (by decide) (by kernel_rfl) (fun w' hb' => hK _ w' hb' rfl)
    | 43, _ =>
      exact u_notT 682 (opAtW ho (by kernel_rfl)) (hW 42 (by kernel_rfl)) (hK _ _ (Below.refl _ _) rfl)
    | 44, _ =>
      exact v_orF 677 683 (opAtW ho (by kernel_rfl)) (hW 37 (by kernel_rfl)) (hW 43 (by kernel_rfl)) (hK _ _ (Below.refl _ _) rfl)
    | i + 45, h => exact absurd (show i + 45 < 45 from h) (by omega)
  · intro us w hu hb hS
    have hat : ∀ j (hj : j < sn48_ds.length), (putAll T0 sn48_ds us)[sn48_ds[j]]?.getD undef = us.getD j undef := fun j hj => by
      rw [putAll_at T0 sn48_ds us j hj hu.symm (by decide) (hlt _ (List.getElem_mem hj)), ← List.getD_eq_getElem?_getD]
    have r684 := hS 44 (by decide)
    rw [← hat 44 (by decide)] at r684
    exact hend _ w (by rw [putAll_size]; exact hsz) hb (fun x hx => putAll_far sn48_ds us T0 x hx) r684
noncomputable def sn50_ops : Array Oper := opsW Tryd.f3 50
def sn50_ds : List Nat := [685, 686, 687, 688, 689, 690, 691, 692, 693, 694, 695, 696, 697, 698, 699, 700, 701, 702, 703, 24]
def sn50_S : Nat → Value → World → Prop
  | 0, v, w => v = evV ⟨1, 0, 0, 0, 0, 0, 0⟩
  | 1, v, w => v = evV ⟨1, 1, 0, 0, 0, 0, 0⟩
  | 2, v, w => v = evV ⟨2, 0, 0, 0, 0, 0, 0⟩
  | 3, v, w => v = evV ⟨2, 1, 0, 0, 0, 0, 0⟩
  | 4, v, w => v = evV ⟨3, 0, 0, 2, 0, 0, 0⟩
  | 5, v, w => v = evV ⟨3, 1, 0, 2, 0, 0, 0⟩
  | 6, v, w => v = evV ⟨12, 0, 0, 0, 0, 0, 0⟩
  | 7, v, w => v = evV ⟨12, 1, 0, 0, 0, 0, 0⟩
  | 8, v, w => SlA [⟨1, 1, 0, 0, 0, 0, 0⟩, ⟨2, 1, 0, 0, 0, 0, 0⟩, ⟨3, 1, 0, 2, 0, 0, 0⟩, ⟨12, 1, 0, 0, 0, 0, 0⟩] (v) w
  | 9, v, w => SlA [⟨1, 1, 0, 0, 0, 0, 0⟩, ⟨2, 1, 0, 0, 0, 0, 0⟩, ⟨3, 1, 0, 2, 0, 0, 0⟩, ⟨12, 1, 0, 0, 0, 0, 0⟩] (v) w
  | 10, v, w => SlA [⟨1, 0, 0, 0, 0, 0, 0⟩, ⟨4, 0, 0, 0, 0, 0, 0⟩, ⟨5, 0, 0, 0, 1, 0, 0⟩, ⟨7, 0, 0, 0, 1, 0, 0⟩, ⟨8, 0, 0, 0, 0, 0, 0⟩, ⟨9, 0, 0, 0, 0, 0, 0⟩] (v) w
  | 11, v, w => v = evV ⟨13, 0, 0, 0, 0, 0, 0⟩
  | 12, v, w => v = evV ⟨13, 1, 0, 0, 0, 0, 0⟩
  | 13, v, w => v = evV ⟨1, 0, 0, 0, 1, 0, 0⟩
  | 14, v, w => v = evV ⟨1, 1, 0, 0, 1, 0, 0⟩
  | 15, v, w => SlA [⟨13, 1, 0, 0, 0, 0, 0⟩, ⟨1, 1, 0, 0, 1, 0, 0⟩] (v) w
  | 16, v, w => SlA [⟨13, 1, 0, 0, 0, 0, 0⟩, ⟨1, 1, 0, 0, 1, 0, 0⟩] (v) w
  | 17, v, w => LsA [[⟨1, 1, 0, 0, 0, 0, 0⟩, ⟨2, 1, 0, 0, 0, 0, 0⟩, ⟨3, 1, 0, 2, 0, 0, 0⟩, ⟨12, 1, 0, 0, 0, 0, 0⟩], [⟨1, 0, 0, 0, 0, 0, 0⟩, ⟨4, 0, 0, 0, 0, 0, 0⟩, ⟨5, 0, 0, 0, 1, 0, 0⟩, ⟨7, 0, 0, 0, 1, 0, 0⟩, ⟨8, 0, 0, 0, 0, 0, 0⟩, ⟨9, 0, 0, 0, 0, 0, 0⟩], [⟨13, 1, 0, 0, 0, 0, 0⟩, ⟨1, 1, 0, 0, 1, 0, 0⟩]] (v) w
  | 18, v, w => SlA [⟨1, 1, 0, 0, 0, 0, 0⟩, ⟨2, 1, 0, 0, 0, 0, 0⟩, ⟨3, 1, 0, 2, 0, 0, 0⟩, ⟨12, 1, 0, 0, 0, 0, 0⟩, ⟨1, 0, 0, 0, 0, 0, 0⟩, ⟨4, 0, 0, 0, 0, 0, 0⟩, ⟨5, 0, 0, 0, 1, 0, 0⟩, ⟨7, 0, 0, 0, 1, 0, 0⟩, ⟨8, 0, 0, 0, 0, 0, 0⟩, ⟨9, 0, 0, 0, 0, 0, 0⟩, ⟨13, 1, 0, 0, 0, 0, 0⟩, ⟨1, 1, 0, 0, 1, 0, 0⟩] (v) w
  | 19, v, w => SlA [⟨1, 1, 0, 0, 0, 0, 0⟩, ⟨2, 1, 0, 0, 0, 0, 0⟩, ⟨3, 1, 0, 2, 0, 0, 0⟩, ⟨12, 1, 0, 0, 0, 0, 0⟩, ⟨1, 0, 0, 0, 0, 0, 0⟩, ⟨4, 0, 0, 0, 0, 0, 0⟩, ⟨5, 0, 0, 0, 1, 0, 0⟩, ⟨7, 0, 0, 0, 1, 0, 0⟩, ⟨8, 0, 0, 0, 0, 0, 0⟩, ⟨9, 0, 0, 0, 0, 0, 0⟩, ⟨13, 1, 0, 0, 0, 0, 0⟩, ⟨1, 1, 0, 0, 1, 0, 0⟩] (v) w
  | _ + 20, _, _ => False
theorem sn50_mono (i : Nat) (v : Value) (w w' : World) (b : Below w.heap.size w w') (h : sn50_S i v w) : sn50_S i v w' := by
  match i, h with
  | 0, h => exact h
  | 1, h => exact h
  | 2, h => exact h
  | 3, h => exact h
  | 4, h => exact h
  | 5, h => exact h
  | 6, h => exact h
  | 7, h => exact h
  | 8, h => exact SlA.stays h b
  | 9, h => exact SlA.stays h b
  | 10, h => exact SlA.stays h b
  | 11, h => exact h
  | 12, h => exact h
  | 13, h => exact h
  | 14, h => exact h
  | 15, h => exact SlA.stays h b
  | 16, h => exact SlA.stays h b
  | 17, h => exact LsA.stays h b
  | 18, h => exact SlA.stays h b
  | 19, h => exact SlA.stays h b
set_option maxRecDepth 100000 in
set_option maxHeartbeats 4000000 in
theorem sn50 {Tb : World → Prop} (HC : CheckC Tb) {id : Nat} {ops : Array Oper} (hops : ops = sn50_ops) (T0 : Array Value) (hsz : T0.size = 726) (W : World) (ht : Tb W) (p6 : PtE ⟨1, 0, 0, 0, 0, 0, 0⟩ (T0[6]?.getD undef) W) (p7 : PtE ⟨2, 0, 0, 0, 0, 0, 0⟩ (T0[7]?.getD undef) W) (p8 : PtE ⟨3, 0, 0, 2, 0, 0, 0⟩ (T0[8]?.getD undef) W) (p11 : SlA [⟨1, 0, 0, 0, 0, 0, 0⟩, ⟨4, 0, 0, 0, 0, 0, 0⟩, ⟨5, 0, 0, 0, 1, 0, 0⟩, ⟨7, 0, 0, 0, 1, 0, 0⟩, ⟨8, 0, 0, 0, 0, 0, 0⟩, ⟨9, 0, 0, 0, 0, 0, 0⟩] (T0[11]?.getD undef) W) (p12 : PtE ⟨1, 0, 0, 0, 1, 0, 0⟩ (T0[12]?.getD undef) W) {Q : Exit → Act → World → Prop}
    (hend : ∀ (T : Array Value) (w : World), T.size = 726 → Below W.heap.size W w → (∀ x, x ∉ sn50_ds → T[x]? = T0[x]?) → SlA [⟨1, 1, 0, 0, 0, 0, 0⟩, ⟨2, 1, 0, 0, 0, 0, 0⟩, ⟨3, 1, 0, 2, 0, 0, 0⟩, ⟨12, 1, 0, 0, 0, 0, 0⟩, ⟨1, 0, 0, 0, 0, 0, 0⟩, ⟨4, 0, 0, 0, 0, 0, 0⟩, ⟨5, 0, 0, 0, 1, 0, 0⟩, ⟨7, 0, 0, 0, 1, 0, 0⟩, ⟨8, 0, 0, 0, 0, 0, 0⟩, ⟨9, 0, 0, 0, 0, 0, 0⟩, ⟨13, 1, 0, 0, 0, 0, 0⟩, ⟨1, 1, 0, 0, 1, 0, 0⟩] (T[24]?.getD undef) w → Q .normal ⟨T, []⟩ w) : (Code.region id ops true).wp Tryd.prog Q ⟨T0, []⟩ W := by
  subst hops
  have hos : sn50_ops.size = 20 := by kernel_rfl
  have hga : (List.range 20).all (fun i => match sn50_ops[i]? with | some o => o.guard == ([none, none, none, none, none, none, none, none, none, none, none, none, none, none, none, none, none, none, none, none] : List (Option (Nat × Bool))).getD i none | none => false) = true := by kernel_rfl
  have q6 : ∀ (a : Act) (w : World), (∀ t, t ∉ sn50_ds → a.tmps[t]?.getD undef = T0[t]?.getD undef) → Below W.heap.size W w → PtE ⟨1, 0, 0, 0, 0, 0, 0⟩ (a.tmps[6]?.getD undef) w := fun a w hT hb => by rw [hT 6 (by decide)]; exact PtE.stays p6 hb
  have q7 : ∀ (a : Act) (w : World), (∀ t, t ∉ sn50_ds → a.tmps[t]?.getD undef = T0[t]?.getD undef) → Below W.heap.size W w → PtE ⟨2, 0, 0, 0, 0, 0, 0⟩ (a.tmps[7]?.getD undef) w := fun a w hT hb => by rw [hT 7 (by decide)]; exact PtE.stays p7 hb
  have q8 : ∀ (a : Act) (w : World), (∀ t, t ∉ sn50_ds → a.tmps[t]?.getD undef = T0[t]?.getD undef) → Below W.heap.size W w → PtE ⟨3, 0, 0, 2, 0, 0, 0⟩ (a.tmps[8]?.getD undef) w := fun a w hT hb => by rw [hT 8 (by decide)]; exact PtE.stays p8 hb
  have q11 : ∀ (a : Act) (w : World), (∀ t, t ∉ sn50_ds → a.tmps[t]?.getD undef = T0[t]?.getD undef) → Below W.heap.size W w → SlA [⟨1, 0, 0, 0, 0, 0, 0⟩, ⟨4, 0, 0, 0, 0, 0, 0⟩, ⟨5, 0, 0, 0, 1, 0, 0⟩, ⟨7, 0, 0, 0, 1, 0, 0⟩, ⟨8, 0, 0, 0, 0, 0, 0⟩, ⟨9, 0, 0, 0, 0, 0, 0⟩] (a.tmps[11]?.getD undef) w := fun a w hT hb => by rw [hT 11 (by decide)]; exact SlA.stays p11 hb
  have q12 : ∀ (a : Act) (w : World), (∀ t, t ∉ sn50_ds → a.tmps[t]?.getD undef = T0[t]?.getD undef) → Below W.heap.size W w → PtE ⟨1, 0, 0, 0, 1, 0, 0⟩ (a.tmps[12]?.getD undef) w := fun a w hT hb => by rw [hT 12 (by decide)]; exact PtE.stays p12 hb
  have hlt : ∀ x ∈ sn50_ds, x < T0.size := fun x hx => by
    have hall : (sn50_ds.all fun d => decide (d < 726)) = true := by decide
    have := List.all_eq_true.1 hall x hx
    simp only [decide_eq_true_eq] at this
    omega
  refine wp_region_kinds3 sn50_S sn50_ds W T0 (by decide) hlt (by kernel_rfl) (by kernel_rfl) (fun i o j want ho hgd => ?_) sn50_mono ?_ ?_
  · have hi : i < 20 := by rw [← hos]; exact (Array.getElem?_eq_some_iff.1 ho).1
    have h1 := List.all_eq_true.1 hga i (by simpa using hi)
    rw [ho] at h1
    simp only [hgd, beq_iff_eq] at h1
    match i, hi with
    | 0, _ => cases h1
    | 1, _ => cases h1
    | 2, _ => cases h1
    | 3, _ => cases h1
    | 4, _ => cases h1
    | 5, _ => cases h1
    | 6, _ => cases h1
    | 7, _ => cases h1
    | 8, _ => cases h1
    | 9, _ => cases h1
    | 10, _ => cases h1
    | 11, _ => cases h1
    | 12, _ => cases h1
    | 13, _ => cases h1
    | 14, _ => cases h1
    | 15, _ => cases h1
    | 16, _ => cases h1
    | 17, _ => cases h1
    | 18, _ => cases h1
    | 19, _ => cases h1
    | i + 20, h => exact absurd (show i + 20 < 20 from h) (by omega)
  · intro i o ho hi a w hT hW hb K hK
    match i, hi with
    | 0, _ =>
      exact n_load 6 (opAtW ho (by kernel_rfl)) (q6 a w hT hb) (hK _ _ (Below.refl _ _) rfl)
    | 1, _ =>
      exact o_by 685 (opAtW ho (by kernel_rfl)) (hW 0 (by kernel_rfl)) (by_any 1 ⟨1, 0, 0, 0, 0, 0, 0⟩ w) (fun w' hb' => hK _ w' hb' rfl)
    | 2, _ =>
      exact n_load 7 (opAtW ho (by kernel_rfl)) (q7 a w hT hb) (hK _ _ (Below.refl _ _) rfl)
    | 3, _ =>
      exact o_by 687 (opAtW ho (by kernel_rfl)) (hW 2 (by kernel_rfl)) (by_any 1 ⟨2, 0, 0, 0, 0, 0, 0⟩ w) (fun w' hb' => hK _ w' hb' rfl)
    | 4, _ =>
      exact n_load 8 (opAtW ho (by kernel_rfl)) (q8 a w hT hb) (hK _ _ (Below.refl _ _) rfl)
    | 5, _ =>
      exact o_by 689 (opAtW ho (by kernel_rfl)) (hW 4 (by kernel_rfl)) (by_any 1 ⟨3, 0, 0, 2, 0, 0, 0⟩ w) (fun w' hb' => hK _ w' hb' rfl)
    | 6, _ =>
      exact o_ev (opAtW ho (by kernel_rfl)) (ev_any (12) (0) (0) w) (fun w' hb' => hK _ w' hb' rfl)
    | 7, _ =>
      exact o_by 691 (opAtW ho (by kernel_rfl)) (hW 6 (by kernel_rfl)) (by_any 1 ⟨12, 0, 0, 0, 0, 0, 0⟩ w) (fun w' hb' => hK _ w' hb' rfl)
    | 8, _ =>
      have p686 : a.tmps[686]?.getD undef = evV ⟨1, 1, 0, 0, 0, 0, 0⟩ := (hW 1 (by kernel_rfl))
      have p688 : a.tmps[688]?.getD undef = evV ⟨2, 1, 0, 0, 0, 0, 0⟩ := (hW 3 (by kernel_rfl))
      have p690 : a.tmps[690]?.getD undef = evV ⟨3, 1, 0, 2, 0, 0, 0⟩ := (hW 5 (by kernel_rfl))
      have p692 : a.tmps[692]?.getD undef = evV ⟨12, 1, 0, 0, 0, 0, 0⟩ := (hW 7 (by kernel_rfl))
      exact n_slice [⟨1, 1, 0, 0, 0, 0, 0⟩, ⟨2, 1, 0, 0, 0, 0, 0⟩, ⟨3, 1, 0, 2, 0, 0, 0⟩, ⟨12, 1, 0, 0, 0, 0, 0⟩] #[(0, .tmp 686), (1, .tmp 688), (2, .tmp 690), (3, .tmp 692)] (opAtW ho (by kernel_rfl)) rfl (by kernel_rfl) (by decide) (by decide) (by simp [Act.eval, p686, p688, p690, p692]) (fun v w' hb' hs => hK v w' hb' hs)
    | 9, _ =>
      exact n_many 693 (opAtW ho (by kernel_rfl)) (hW 8 (by kernel_rfl)) (fun u w' hb' hs => hK u w' hb' hs)
    | 10, _ =>
      exact v_move 11 (opAtW ho (by kernel_rfl)) rfl (hK _ _ (Below.refl _ _) (q11 a w hT hb))
    | 11, _ =>
      exact o_ev (opAtW ho (by kernel_rfl)) (ev_any (13) (0) (0) w) (fun w' hb' => hK _ w' hb' rfl)
    | 12, _ =>
      exact o_by 696 (opAtW ho (by kernel_rfl)) (hW 11 (by kernel_rfl)) (by_any 1 ⟨13, 0, 0, 0, 0, 0, 0⟩ w) (fun w' hb' => hK _ w' hb' rfl)
    | 13, _ =>
      exact n_load 12 (opAtW ho (by kernel_rfl)) (q12 a w hT hb) (hK _ _ (Below.refl _ _) rfl)
    | 14, _ =>
      exact o_by 698 (opAtW ho (by kernel_rfl)) (hW 13 (by kernel_rfl)) (by_any 1 ⟨1, 0, 0, 0, 1, 0, 0⟩ w) (fun w' hb' => hK _ w' hb' rfl)
    | 15, _ =>
      have p697 : a.tmps[697]?.getD undef = evV ⟨13, 1, 0, 0, 0, 0, 0⟩ := (hW 12 (by kernel_rfl))
      have p699 : a.tmps[699]?.getD undef = evV ⟨1, 1, 0, 0, 1, 0, 0⟩ := (hW 14 (by kernel_rfl))
      exact n_slice [⟨13, 1, 0, 0, 0, 0, 0⟩, ⟨1, 1, 0, 0, 1, 0, 0⟩] #[(0, .tmp 697), (1, .tmp 699)] (opAtW ho (by kernel_rfl)) rfl (by kernel_rfl) (by decide) (by decide) (by simp [Act.eval, p697, p699]) (fun v w' hb' hs => hK v w' hb' hs)
    | 16, _ =>
      exact n_many 700 (opAtW ho (by kernel_rfl)) (hW 15 (by kernel_rfl)) (fun u w' hb' hs => hK u w' hb' hs)
    | 17, _ =>
      have p694 : SlA [⟨1, 1, 0, 0, 0, 0, 0⟩, ⟨2, 1, 0, 0, 0, 0, 0⟩, ⟨3, 1, 0, 2, 0, 0, 0⟩, ⟨12, 1, 0, 0, 0, 0, 0⟩] (a.tmps[694]?.getD undef) w := (hW 9 (by kernel_rfl))
      have p695 : SlA [⟨1, 0, 0, 0, 0, 0, 0⟩, ⟨4, 0, 0, 0, 0, 0, 0⟩, ⟨5, 0, 0, 0, 1, 0, 0⟩, ⟨7, 0, 0, 0, 1, 0, 0⟩, ⟨8, 0, 0, 0, 0, 0, 0⟩, ⟨9, 0, 0, 0, 0, 0, 0⟩] (a.tmps[695]?.getD undef) w := (hW 10 (by kernel_rfl))
      have p701 : SlA [⟨13, 1, 0, 0, 0, 0, 0⟩, ⟨1, 1, 0, 0, 1, 0, 0⟩] (a.tmps[701]?.getD undef) w := (hW 16 (by kernel_rfl))
      refine n_lists [[⟨1, 1, 0, 0, 0, 0, 0⟩, ⟨2, 1, 0, 0, 0, 0, 0⟩, ⟨3, 1, 0, 2, 0, 0, 0⟩, ⟨12, 1, 0, 0, 0, 0, 0⟩], [⟨1, 0, 0, 0, 0, 0, 0⟩, ⟨4, 0, 0, 0, 0, 0, 0⟩, ⟨5, 0, 0, 0, 1, 0, 0⟩, ⟨7, 0, 0, 0, 1, 0, 0⟩, ⟨8, 0, 0, 0, 0, 0, 0⟩, ⟨9, 0, 0, 0, 0, 0, 0⟩], [⟨13, 1, 0, 0, 0, 0, 0⟩, ⟨1, 1, 0, 0, 1, 0, 0⟩]] [a.tmps[694]?.getD undef, a.tmps[695]?.getD undef, a.tmps[701]?.getD undef] #[(0, .tmp 694), (1, .tmp 695), (2, .tmp 701)] (opAtW ho (by kernel_rfl)) rfl rfl (by decide) (by decide) (fun j h => ?_) (by simp [Act.eval]) (fun v w' hb' hs => hK v w' hb' hs)
      match j, h with
      | 0, _ => exact p694
      | 1, _ => exact p695
      | 2, _ => exact p701
      | j + 3, h => exact absurd h (by simp)
    | 18, _ =>
      exact n_join 702 [⟨1, 1, 0, 0, 0, 0, 0⟩, ⟨2, 1, 0, 0, 0, 0, 0⟩, ⟨3, 1, 0, 2, 0, 0, 0⟩, ⟨12, 1, 0, 0, 0, 0, 0⟩, ⟨1, 0, 0, 0, 0, 0, 0⟩, ⟨4, 0, 0, 0, 0, 0, 0⟩, ⟨5, 0, 0, 0, 1, 0, 0⟩, ⟨7, 0, 0, 0, 1, 0, 0⟩, ⟨8, 0, 0, 0, 0, 0, 0⟩, ⟨9, 0, 0, 0, 0, 0, 0⟩, ⟨13, 1, 0, 0, 0, 0, 0⟩, ⟨1, 1, 0, 0, 1, 0, 0⟩] (opAtW ho (by kernel_rfl)) (hW 17 (by kernel_rfl)) (by decide) (by decide) rfl (fun u w' hb' hs => hK u w' hb' hs)
    | 19, _ =>
      exact v_assign 703 (opAtW ho (by kernel_rfl)) rfl (hK _ _ (Below.refl _ _) (hW 18 (by kernel_rfl)))
    | i + 20, h => exact absurd (show i + 20 < 20 from h) (by omega)
  · intro us w hu hb hS
    have hat : ∀ j (hj : j < sn50_ds.length), (putAll T0 sn50_ds us)[sn50_ds[j]]?.getD undef = us.getD j undef := fun j hj => by
      rw [putAll_at T0 sn50_ds us j hj hu.symm (by decide) (hlt _ (List.getElem_mem hj)), ← List.getD_eq_getElem?_getD]
    have r24 := hS 19 (by decide)
    rw [← hat 19 (by decide)] at r24
    exact hend _ w (by rw [putAll_size]; exact hsz) hb (fun x hx => putAll_far sn50_ds us T0 x hx) r24
noncomputable def sn51_ops : Array Oper := opsW Tryd.f3 51
def sn51_ds : List Nat := [704, 705, 706, 707, 708, 709, 710, 711, 712, 713, 714, 715, 716, 717, 718, 719, 720, 721, 722, 723, 724, 725, 0]
def sn51_S : Nat → Value → World → Prop
  | 0, v, w => SlA [⟨1, 1, 0, 0, 0, 0, 0⟩, ⟨2, 1, 0, 0, 0, 0, 0⟩, ⟨3, 1, 0, 2, 0, 0, 0⟩, ⟨12, 1, 0, 0, 0, 0, 0⟩, ⟨1, 0, 0, 0, 0, 0, 0⟩, ⟨4, 0, 0, 0, 0, 0, 0⟩, ⟨5, 0, 0, 0, 1, 0, 0⟩, ⟨7, 0, 0, 0, 1, 0, 0⟩, ⟨8, 0, 0, 0, 0, 0, 0⟩, ⟨9, 0, 0, 0, 0, 0, 0⟩, ⟨13, 1, 0, 0, 0, 0, 0⟩, ⟨1, 1, 0, 0, 1, 0, 0⟩] (v) w
  | 1, v, w => TrA 3 4 2 [⟨1, 1, 0, 0, 0, 0, 0⟩, ⟨2, 1, 0, 0, 0, 0, 0⟩, ⟨3, 1, 0, 2, 0, 0, 0⟩, ⟨12, 1, 0, 0, 0, 0, 0⟩, ⟨1, 0, 0, 0, 0, 0, 0⟩, ⟨4, 0, 0, 0, 0, 0, 0⟩, ⟨5, 0, 0, 0, 1, 0, 0⟩, ⟨7, 0, 0, 0, 1, 0, 0⟩, ⟨8, 0, 0, 0, 0, 0, 0⟩, ⟨9, 0, 0, 0, 0, 0, 0⟩, ⟨13, 1, 0, 0, 0, 0, 0⟩, ⟨1, 1, 0, 0, 1, 0, 0⟩] (v) w
  | 2, v, w => v = .bool true
  | 3, v, w => v = .bool true
  | 4, v, w => SlA [⟨1, 1, 0, 0, 0, 0, 0⟩, ⟨2, 1, 0, 0, 0, 0, 0⟩, ⟨3, 1, 0, 2, 0, 0, 0⟩, ⟨12, 1, 0, 0, 0, 0, 0⟩, ⟨1, 0, 0, 0, 0, 0, 0⟩, ⟨4, 0, 0, 0, 0, 0, 0⟩, ⟨5, 0, 0, 0, 1, 0, 0⟩, ⟨7, 0, 0, 0, 1, 0, 0⟩, ⟨8, 0, 0, 0, 0, 0, 0⟩, ⟨9, 0, 0, 0, 0, 0, 0⟩, ⟨13, 1, 0, 0, 0, 0, 0⟩, ⟨1, 1, 0, 0, 1, 0, 0⟩] (v) w
  | 5, v, w => SlA [⟨1, 1, 0, 0, 0, 0, 0⟩, ⟨2, 1, 0, 0, 0, 0, 0⟩, ⟨3, 1, 0, 2, 0, 0, 0⟩, ⟨12, 1, 0, 0, 0, 0, 0⟩] (v) w
  | 6, v, w => PaE ⟨1, 1, 0, 0, 0, 0, 0⟩ (v) w
  | 7, v, w => v = evV ⟨1, 1, 0, 0, 0, 0, 0⟩
  | 8, v, w => SlA [⟨1, 1, 0, 0, 0, 0, 0⟩, ⟨2, 1, 0, 0, 0, 0, 0⟩, ⟨3, 1, 0, 2, 0, 0, 0⟩, ⟨12, 1, 0, 0, 0, 0, 0⟩, ⟨1, 0, 0, 0, 0, 0, 0⟩, ⟨4, 0, 0, 0, 0, 0, 0⟩, ⟨5, 0, 0, 0, 1, 0, 0⟩, ⟨7, 0, 0, 0, 1, 0, 0⟩, ⟨8, 0, 0, 0, 0, 0, 0⟩, ⟨9, 0, 0, 0, 0, 0, 0⟩, ⟨13, 1, 0, 0, 0, 0, 0⟩, ⟨1, 1, 0, 0, 1, 0, 0⟩] (v) w
  | 9, v, w => PaE ⟨2, 1, 0, 0, 0, 0, 0⟩ (v) w
  | 10, v, w => v = evV ⟨2, 1, 0, 0, 0, 0, 0⟩
  | 11, v, w => SlA [⟨1, 1, 0, 0, 0, 0, 0⟩, ⟨2, 1, 0, 0, 0, 0, 0⟩, ⟨3, 1, 0, 2, 0, 0, 0⟩, ⟨12, 1, 0, 0, 0, 0, 0⟩, ⟨1, 0, 0, 0, 0, 0, 0⟩, ⟨4, 0, 0, 0, 0, 0, 0⟩, ⟨5, 0, 0, 0, 1, 0, 0⟩, ⟨7, 0, 0, 0, 1, 0, 0⟩, ⟨8, 0, 0, 0, 0, 0, 0⟩, ⟨9, 0, 0, 0, 0, 0, 0⟩, ⟨13, 1, 0, 0, 0, 0, 0⟩, ⟨1, 1, 0, 0, 1, 0, 0⟩] (v) w
  | 12, v, w => PaE ⟨3, 1, 0, 2, 0, 0, 0⟩ (v) w
  | 13, v, w => v = evV ⟨3, 1, 0, 2, 0, 0, 0⟩
  | 14, v, w => SlA [⟨1, 1, 0, 0, 0, 0, 0⟩, ⟨2, 1, 0, 0, 0, 0, 0⟩, ⟨3, 1, 0, 2, 0, 0, 0⟩, ⟨12, 1, 0, 0, 0, 0, 0⟩, ⟨1, 0, 0, 0, 0, 0, 0⟩, ⟨4, 0, 0, 0, 0, 0, 0⟩, ⟨5, 0, 0, 0, 1, 0, 0⟩, ⟨7, 0, 0, 0, 1, 0, 0⟩, ⟨8, 0, 0, 0, 0, 0, 0⟩, ⟨9, 0, 0, 0, 0, 0, 0⟩, ⟨13, 1, 0, 0, 0, 0, 0⟩, ⟨1, 1, 0, 0, 1, 0, 0⟩] (v) w
  | 15, v, w => PaE ⟨12, 1, 0, 0, 0, 0, 0⟩ (v) w
  | 16, v, w => v = evV ⟨12, 1, 0, 0, 0, 0, 0⟩
  | 17, v, w => v = evV ⟨13, 0, 0, 0, 0, 0, 0⟩
  | 18, v, w => v = evV ⟨13, 1, 0, 0, 0, 0, 0⟩
  | 19, v, w => SlA [⟨1, 1, 0, 0, 0, 0, 0⟩, ⟨2, 1, 0, 0, 0, 0, 0⟩, ⟨3, 1, 0, 2, 0, 0, 0⟩, ⟨12, 1, 0, 0, 0, 0, 0⟩, ⟨13, 1, 0, 0, 0, 0, 0⟩] (v) w
  | 20, v, w => v = .bool true
  | 21, v, w => v = .bool true
  | 22, v, w => v = .bool true
  | _ + 23, _, _ => False
theorem sn51_mono (i : Nat) (v : Value) (w w' : World) (b : Below w.heap.size w w') (h : sn51_S i v w) : sn51_S i v w' := by
  match i, h with
  | 0, h => exact SlA.stays h b
  | 1, h => exact TrA.stays h b
  | 2, h => exact h
  | 3, h => exact h
  | 4, h => exact SlA.stays h b
  | 5, h => exact SlA.stays h b
  | 6, h => exact PaE.stays h b
  | 7, h => exact h
  | 8, h => exact SlA.stays h b
  | 9, h => exact PaE.stays h b
  | 10, h => exact h
  | 11, h => exact SlA.stays h b
  | 12, h => exact PaE.stays h b
  | 13, h => exact h
  | 14, h => exact SlA.stays h b
  | 15, h => exact PaE.stays h b
  | 16, h => exact h
  | 17, h => exact h
  | 18, h => exact h
  | 19, h => exact SlA.stays h b
  | 20, h => exact h
  | 21, h => exact h
  | 22, h => exact h
set_option maxRecDepth 100000 in
set_option maxHeartbeats 4000000 in
theorem sn51 {Tb : World → Prop} (HC : CheckC Tb) {id : Nat} {ops : Array Oper} (hops : ops = sn51_ops) (T0 : Array Value) (hsz : T0.size = 726) (W : World) (ht : Tb W) (p24 : SlA [⟨1, 1, 0, 0, 0, 0, 0⟩, ⟨2, 1, 0, 0, 0, 0, 0⟩, ⟨3, 1, 0, 2, 0, 0, 0⟩, ⟨12, 1, 0, 0, 0, 0, 0⟩, ⟨1, 0, 0, 0, 0, 0, 0⟩, ⟨4, 0, 0, 0, 0, 0, 0⟩, ⟨5, 0, 0, 0, 1, 0, 0⟩, ⟨7, 0, 0, 0, 1, 0, 0⟩, ⟨8, 0, 0, 0, 0, 0, 0⟩, ⟨9, 0, 0, 0, 0, 0, 0⟩, ⟨13, 1, 0, 0, 0, 0, 0⟩, ⟨1, 1, 0, 0, 1, 0, 0⟩] (T0[24]?.getD undef) W) {Q : Exit → Act → World → Prop}
    (hend : ∀ (T : Array Value) (w : World), T.size = 726 → Below W.heap.size W w → (∀ x, x ∉ sn51_ds → T[x]? = T0[x]?) → T[0]?.getD undef = .bool true → Q .normal ⟨T, []⟩ w) : (Code.region id ops true).wp Tryd.prog Q ⟨T0, []⟩ W := by
  subst hops
  have hos : sn51_ops.size = 23 := by kernel_rfl
  have hga : (List.range 23).all (fun i => match sn51_ops[i]? with | some o => o.guard == ([none, none, none, none, some (3, true), some (3, true), some (3, true), some (3, true), some (3, true), some (3, true), some (3, true), some (3, true), some (3, true), some (3, true), some (3, true), some (3, true), some (3, true), some (3, true), some (3, true), some (3, true), some (3, true), none, none] : List (Option (Nat × Bool))).getD i none | none => false) = true := by kernel_rfl
  have q24 : ∀ (a : Act) (w : World), (∀ t, t ∉ sn51_ds → a.tmps[t]?.getD undef = T0[t]?.getD undef) → Below W.heap.size W w → SlA [⟨1, 1, 0, 0, 0, 0, 0⟩, ⟨2, 1, 0, 0, 0, 0, 0⟩, ⟨3, 1, 0, 2, 0, 0, 0⟩, ⟨12, 1, 0, 0, 0, 0, 0⟩, ⟨1, 0, 0, 0, 0, 0, 0⟩, ⟨4, 0, 0, 0, 0, 0, 0⟩, ⟨5, 0, 0, 0, 1, 0, 0⟩, ⟨7, 0, 0, 0, 1, 0, 0⟩, ⟨8, 0, 0, 0, 0, 0, 0⟩, ⟨9, 0, 0, 0, 0, 0, 0⟩, ⟨13, 1, 0, 0, 0, 0, 0⟩, ⟨1, 1, 0, 0, 1, 0, 0⟩] (a.tmps[24]?.getD undef) w := fun a w hT hb => by rw [hT 24 (by decide)]; exact SlA.stays p24 hb
  have hlt : ∀ x ∈ sn51_ds, x < T0.size := fun x hx => by
    have hall : (sn51_ds.all fun d => decide (d < 726)) = true := by decide
    have := List.all_eq_true.1 hall x hx
    simp only [decide_eq_true_eq] at this
    omega
  refine wp_region_kinds3 sn51_S sn51_ds W T0 (by decide) hlt (by kernel_rfl) (by kernel_rfl) (fun i o j want ho hgd => ?_) sn51_mono ?_ ?_
  · have hi : i < 23 := by rw [← hos]; exact (Array.getElem?_eq_some_iff.1 ho).1
    have h1 := List.all_eq_true.1 hga i (by simpa using hi)
    rw [ho] at h1
    simp only [hgd, beq_iff_eq] at h1
    match i, hi with
    | 0, _ => cases h1
    | 1, _ => cases h1
    | 2, _ => cases h1
    | 3, _ => cases h1
    | 4, _ => obtain ⟨rfl, rfl⟩ := Prod.mk.inj (Option.some.inj h1); exact fun v w h => h
    | 5, _ => obtain ⟨rfl, rfl⟩ := Prod.mk.inj (Option.some.inj h1); exact fun v w h => h
    | 6, _ => obtain ⟨rfl, rfl⟩ := Prod.mk.inj (Option.some.inj h1); exact fun v w h => h
    | 7, _ => obtain ⟨rfl, rfl⟩ := Prod.mk.inj (Option.some.inj h1); exact fun v w h => h
    | 8, _ => obtain ⟨rfl, rfl⟩ := Prod.mk.inj (Option.some.inj h1); exact fun v w h => h
    | 9, _ => obtain ⟨rfl, rfl⟩ := Prod.mk.inj (Option.some.inj h1); exact fun v w h => h
    | 10, _ => obtain ⟨rfl, rfl⟩ := Prod.mk.inj (Option.some.inj h1); exact fun v w h => h
    | 11, _ => obtain ⟨rfl, rfl⟩ := Prod.mk.inj (Option.some.inj h1); exact fun v w h => h
    | 12, _ => obtain ⟨rfl, rfl⟩ := Prod.mk.inj (Option.some.inj h1); exact fun v w h => h
    | 13, _ => obtain ⟨rfl, rfl⟩ := Prod.mk.inj (Option.some.inj h1); exact fun v w h => h
    | 14, _ => obtain ⟨rfl, rfl⟩ := Prod.mk.inj (Option.some.inj h1); exact fun v w h => h
    | 15, _ => obtain ⟨rfl, rfl⟩ := Prod.mk.inj (Option.some.inj h1); exact fun v w h => h
    | 16, _ => obtain ⟨rfl, rfl⟩ := Prod.mk.inj (Option.some.inj h1); exact fun v w h => h
    | 17, _ => obtain ⟨rfl, rfl⟩ := Prod.mk.inj (Option.some.inj h1); exact fun v w h => h
    | 18, _ => obtain ⟨rfl, rfl⟩ := Prod.mk.inj (Option.some.inj h1); exact fun v w h => h
    | 19, _ => obtain ⟨rfl, rfl⟩ := Prod.mk.inj (Option.some.inj h1); exact fun v w h => h
    | 20, _ => obtain ⟨rfl, rfl⟩ := Prod.mk.inj (Option.some.inj h1); exact fun v w h => h
    | 21, _ => cases h1
    | 22, _ => cases h1
    | i + 23, h => exact absurd (show i + 23 < 23 from h) (by omega)
  · intro i o ho hi a w hT hW hb K hK
    match i, hi with
    | 0, _ =>
      exact v_move 24 (opAtW ho (by kernel_rfl)) rfl (hK _ _ (Below.refl _ _) (q24 a w hT hb))
    | 1, _ =>
      exact n_over 704 (opAtW ho (by kernel_rfl)) (hW 0 (by kernel_rfl)) (fun u w' hb' hs => hK u w' hb' hs)
    | 2, _ =>
      exact n_fine HC (HC.below W w ht hb) 705 true (opAtW ho (by kernel_rfl)) (hW 1 (by kernel_rfl)) (by decide) (by decide) (by decide) (by decide) (by kernel_rfl) (fun w' hb' => hK _ w' hb' rfl)
    | 3, _ =>
      exact v_move 706 (opAtW ho (by kernel_rfl)) (hW 2 (by kernel_rfl)) (hK _ _ (Below.refl _ _) rfl)
    | 4, _ =>
      exact v_move 24 (opAtW ho (by kernel_rfl)) rfl (hK _ _ (Below.refl _ _) (q24 a w hT hb))
    | 5, _ =>
      exact n_hi4 708 (opAtW ho (by kernel_rfl)) (hW 4 (by kernel_rfl)) (by decide) (fun u hu => hK _ _ (Below.refl _ _) hu)
    | 6, _ =>
      exact n_idx 709 0 ⟨1, 1, 0, 0, 0, 0, 0⟩ rfl (opAtW ho (by kernel_rfl)) (hW 5 (by kernel_rfl)) (by decide) rfl (fun u hu => hK _ _ (Below.refl _ _) hu)
    | 7, _ =>
      exact n_loadA 710 (opAtW ho (by kernel_rfl)) (hW 6 (by kernel_rfl)) (hK _ _ (Below.refl _ _) rfl)
    | 8, _ =>
      exact v_move 24 (opAtW ho (by kernel_rfl)) rfl (hK _ _ (Below.refl _ _) (q24 a w hT hb))
    | 9, _ =>
      exact n_idx 712 1 ⟨2, 1, 0, 0, 0, 0, 0⟩ rfl (opAtW ho (by kernel_rfl)) (hW 8 (by kernel_rfl)) (by decide) rfl (fun u hu => hK _ _ (Below.refl _ _) hu)
    | 10, _ =>
      exact n_loadA 713 (opAtW ho (by kernel_rfl)) (hW 9 (by kernel_rfl)) (hK _ _ (Below.refl _ _) rfl)
    | 11, _ =>
      exact v_move 24 (opAtW ho (by kernel_rfl)) rfl (hK _ _ (Below.refl _ _) (q24 a w hT hb))
    | 12, _ =>
      exact n_idx 715 2 ⟨3, 1, 0, 2, 0, 0, 0⟩ rfl (opAtW ho (by kernel_rfl)) (hW 11 (by kernel_rfl)) (by decide) rfl (fun u hu => hK _ _ (Below.refl _ _) hu)
    | 13, _ =>
      exact n_loadA 716 (opAtW ho (by kernel_rfl)) (hW 12 (by kernel_rfl)) (hK _ _ (Below.refl _ _) rfl)
    | 14, _ =>
      exact v_move 24 (opAtW ho (by kernel_rfl)) rfl (hK _ _ (Below.refl _ _) (q24 a w hT hb))
    | 15, _ =>
      exact n_idx 718 3 ⟨12, 1, 0, 0, 0, 0, 0⟩ rfl (opAtW ho (by kernel_rfl)) (hW 14 (by kernel_rfl)) (by decide) rfl (fun u hu => hK _ _ (Below.refl _ _) hu)
    | 16, _ =>
      exact n_loadA 719 (opAtW ho (by kernel_rfl)) (hW 15 (by kernel_rfl)) (hK _ _ (Below.refl _ _) rfl)
    | 17, _ =>
      exact o_ev (opAtW ho (by kernel_rfl)) (ev_any (13) (0) (0) w) (fun w' hb' => hK _ w' hb' rfl)
    | 18, _ =>
      exact o_by 721 (opAtW ho (by kernel_rfl)) (hW 17 (by kernel_rfl)) (by_any 1 ⟨13, 0, 0, 0, 0, 0, 0⟩ w) (fun w' hb' => hK _ w' hb' rfl)
    | 19, _ =>
      have p711 : a.tmps[711]?.getD undef = evV ⟨1, 1, 0, 0, 0, 0, 0⟩ := (hW 7 (by kernel_rfl))
      have p714 : a.tmps[714]?.getD undef = evV ⟨2, 1, 0, 0, 0, 0, 0⟩ := (hW 10 (by kernel_rfl))
      have p717 : a.tmps[717]?.getD undef = evV ⟨3, 1, 0, 2, 0, 0, 0⟩ := (hW 13 (by kernel_rfl))
      have p720 : a.tmps[720]?.getD undef = evV ⟨12, 1, 0, 0, 0, 0, 0⟩ := (hW 16 (by kernel_rfl))
      have p722 : a.tmps[722]?.getD undef = evV ⟨13, 1, 0, 0, 0, 0, 0⟩ := (hW 18 (by kernel_rfl))
      exact n_slice [⟨1, 1, 0, 0, 0, 0, 0⟩, ⟨2, 1, 0, 0, 0, 0, 0⟩, ⟨3, 1, 0, 2, 0, 0, 0⟩, ⟨12, 1, 0, 0, 0, 0, 0⟩, ⟨13, 1, 0, 0, 0, 0, 0⟩] #[(0, .tmp 711), (1, .tmp 714), (2, .tmp 717), (3, .tmp 720), (4, .tmp 722)] (opAtW ho (by kernel_rfl)) rfl (by kernel_rfl) (by decide) (by decide) (by simp [Act.eval, p711, p714, p717, p720, p722]) (fun v w' hb' hs => hK v w' hb' hs)
    | 20, _ =>
      exact n_bad HC (HC.below W w ht hb) 723 true (opAtW ho (by kernel_rfl)) (hW 19 (by kernel_rfl)) (by decide) (by decide) (by kernel_rfl) (fun w' hb' => hK _ w' hb' rfl)
    | 21, _ =>
      exact v_andT 707 724 (opAtW ho (by kernel_rfl)) (hW 3 (by kernel_rfl)) (hW 20 (by kernel_rfl)) (hK _ _ (Below.refl _ _) rfl)
    | 22, _ =>
      exact v_assign 725 (opAtW ho (by kernel_rfl)) (hW 21 (by kernel_rfl)) (hK _ _ (Below.refl _ _) rfl)
    | i + 23, h => exact absurd (show i + 23 < 23 from h) (by omega)
  · intro us w hu hb hS
    have hat : ∀ j (hj : j < sn51_ds.length), (putAll T0 sn51_ds us)[sn51_ds[j]]?.getD undef = us.getD j undef := fun j hj => by
      rw [putAll_at T0 sn51_ds us j hj hu.symm (by decide) (hlt _ (List.getElem_mem hj)), ← List.getD_eq_getElem?_getD]
    have r0 := hS 22 (by decide)
    rw [← hat 22 (by decide)] at r0
    exact hend _ w (by rw [putAll_size]; exact hsz) hb (fun x hx => putAll_far sn51_ds us T0 x hx) r0
end Go.Proofs.YtjennlkindbpoaaDoor
/-
  FOR ShapeNames: its small regions that lay a variable (13, 14, 15, 21, 25, 42, 43). Conditions: none.
-/
namespace Go.Proofs.YtjennlkindbpoaaDoor
set_option maxRecDepth 100000
open Go.RowKit Go.Deep
set_option linter.unusedVariables false
section
variable {P : Program} {ops : Array Oper} {Q : Exit → Act → World → Prop} {T : Array Value} {w : World} {k : Nat}
theorem wpAtS (x : Op) (d : Nat) (h1 : (ops[k]?).map (fun o => (o.op, o.dst, o.guard)) = some (x, some d, none))
    (h : ∀ o : Oper, o.op = x → ∀ K : Act → World → Prop, (∀ v w', wpList P ops Q (ops.toList.drop (k + 1)) ⟨T.setIfInBounds d v, []⟩ w' → K ((⟨T, []⟩ : Act).put o.dst v) w') → o.wp P ⟨T, []⟩ w K Q) : wpList P ops Q (ops.toList.drop k) ⟨T, []⟩ w := by
  obtain ⟨o, ho, e⟩ := Option.map_eq_some_iff.1 h1
  injection e with e1 e2
  injection e2 with e2 e3
  have hk : k < ops.toList.length := by have := (Array.getElem?_eq_some_iff.1 ho).1; simpa using this
  rw [List.drop_eq_getElem_cons hk]
  have ho2 : ops.toList[k] = o := by
    rw [Array.getElem?_eq_getElem (by simpa using hk)] at ho
    rw [Array.getElem_toList]
    exact Option.some.inj ho
  rw [ho2]
  refine wpList_plain e3 fun K hK => h o e1 K fun v w' hv => hK _ _ ?_
  rw [e2]
  exact hv
theorem wpAtN (x : Op) (h1 : (ops[k]?).map (fun o => (o.op, o.dst, o.guard)) = some (x, none, none))
    (h : ∀ o : Oper, o.op = x → ∀ K : Act → World → Prop, (∀ v w', wpList P ops Q (ops.toList.drop (k + 1)) ⟨T, []⟩ w' → K ((⟨T, []⟩ : Act).put o.dst v) w') → o.wp P ⟨T, []⟩ w K Q) : wpList P ops Q (ops.toList.drop k) ⟨T, []⟩ w := by
  obtain ⟨o, ho, e⟩ := Option.map_eq_some_iff.1 h1
  injection e with e1 e2
  injection e2 with e2 e3
  have hk : k < ops.toList.length := by have := (Array.getElem?_eq_some_iff.1 ho).1; simpa using this
  rw [List.drop_eq_getElem_cons hk]
  have ho2 : ops.toList[k] = o := by
    rw [Array.getElem?_eq_getElem (by simpa using hk)] at ho
    rw [Array.getElem_toList]
    exact Option.some.inj ho
  rw [ho2]
  refine wpList_plain e3 fun K hK => h o e1 K fun v w' hv => hK _ _ ?_
  rw [e2]
  exact hv
theorem wpAtE (h : k = ops.size) (hq : Q .normal ⟨T, []⟩ w) : wpList P ops Q (ops.toList.drop k) ⟨T, []⟩ w := by
  rw [List.drop_eq_nil_of_le (by simp; omega)]
  exact wpList_nil hq
theorem getS {d : Nat} {v : Value} (h : d < T.size) : (T.setIfInBounds d v)[d]?.getD undef = v := by simp [h]
theorem getO {d x : Nat} {v : Value} (h : d ≠ x) : (T.setIfInBounds d v)[x]?.getD undef = T[x]?.getD undef := by rw [Array.getElem?_setIfInBounds_ne h]
theorem getF {d x : Nat} {v : Value} (h : d ≠ x) : (T.setIfInBounds d v)[x]? = T[x]? := Array.getElem?_setIfInBounds_ne h
end
section
variable {a : Act} {w : World} {K : Act → World → Prop} {Q : Exit → Act → World → Prop} {o : Oper}
theorem n_alloc (ho : o.op = .alloc 27) (hK : K (a.put o.dst (.pointer (some ⟨w.heap.size, 0, none⟩))) (w.alloc (.cells (evC ev0) 27))) : Oper.wp Tryd.prog o a w K Q := by
  obtain ⟨dst, op, type, pos, after, guard⟩ := o
  have ho' : op = _ := ho
  subst ho'
  clear ho
  have e0 : evC ev0 = #[.int .u8 0, .int .i64 0, .int .i64 0, .int .i64 0, .int .i64 0, .int .i64 0, .int .u8 0] := rfl
  rw [e0] at hK
  go_simp
  exact hK
theorem n_store (x y g : Nat) {e e' : Ev} (ho : o.op = .store 27 (.tmp x) (.tmp y)) (hx : a.tmps[x]?.getD undef = .pointer (some ⟨g, 0, none⟩)) (hy : a.tmps[y]?.getD undef = evV e) (hg : w.heap[g]? = some (.cells (evC e') 27 (0, 0))) (hK : K (a.put o.dst undef) (w.setRow g (evC e))) : Oper.wp Tryd.prog o a w K Q :=
  wp_store_row _ _ _ ho g (evC e) (by simpa [Act.eval] using hx) (by have h := hy; unfold evV at h; simpa [Act.eval, evC] using h) 27 (evC e') hg (by kernel_rfl) rfl (by simp [evC, Value.oneCell']) hK
end
/-- What a small region comes to: its slots are set, a variable lies there. -/
theorem PtE.next {e : Ev} {T T2 : Array Value} {x : Nat} {w w2 : World} (h : PtE e (T[x]?.getD undef) w) (f : T2[x]? = T[x]?) (b : Below w.heap.size w w2) : PtE e (T2[x]?.getD undef) w2 := by rw [f]; exact h.stays b
theorem SlA.next {e : List Ev} {T T2 : Array Value} {x : Nat} {w w2 : World} (h : SlA e (T[x]?.getD undef) w) (f : T2[x]? = T[x]?) (b : Below w.heap.size w w2) : SlA e (T2[x]?.getD undef) w2 := by rw [f]; exact h.stays b
theorem b_new {e : Ev} {w : World} : Below w.heap.size w ((w.alloc (.cells (evC ev0) 27)).setRow w.heap.size (evC e)) ∧ ((w.alloc (.cells (evC ev0) 27)).setRow w.heap.size (evC e)).heap[w.heap.size]? = some (.cells (evC e) 27 (0, 0)) :=
  ⟨below_setRow ((Below.refl _ _).alloc (Nat.le_refl _) _) (Nat.le_refl _) _, setRow_heap _ _ _ _ _ _ (heap_alloc_new w _)⟩
noncomputable def sn21_ops : Array Oper := opsW Tryd.f3 21
theorem sn21 {id : Nat} {ops : Array Oper} (hops : ops = sn21_ops) (T0 : Array Value) (hsz : T0.size = 726) (W : World) {Q : Exit → Act → World → Prop}
    (hend : ∀ (T : Array Value) (w : World), T.size = 726 → Below W.heap.size W w → (∀ x, x ∉ [204, 12] → T[x]? = T0[x]?) → PtE ⟨1, 0, 0, 0, 1, 0, 0⟩ (T[12]?.getD undef) w → Q .normal ⟨T, []⟩ w) : (Code.region id ops false).wp Tryd.prog Q ⟨T0, []⟩ W := by
  subst hops
  refine wp_region_list ?_
  rw [← List.drop_zero (l := sn21_ops.toList)]
  refine wpAtS _ 204 (by kernel_rfl) fun o ho K hK => o_ev ho (ev_any 1 0 1 W) fun w1 b1 => hK _ _ ?_
  refine wpAtS _ 12 (by kernel_rfl) fun o ho K hK => n_alloc ho (hK _ _ ?_)
  refine wpAtN _ (by kernel_rfl) fun o ho K hK => n_store 12 204 w1.heap.size ho (getS (by simp; omega)) ((getO (by decide)).trans (getS (by omega))) (heap_alloc_new w1 _) (hK _ _ ?_)
  refine wpAtE (by kernel_rfl) (hend _ _ (by simpa using hsz) (b1.trans (b_new.1.mono b1.size)) (fun x hx => ?_) ?_)
  · simp only [List.mem_cons, List.not_mem_nil, or_false, not_or] at hx
    rw [getF (by omega), getF (by omega)]
  · rw [getS (by simp; omega)]
    exact ⟨_, rfl, b_new.2⟩
noncomputable def sn25_ops : Array Oper := opsW Tryd.f3 25
theorem sn25 {id : Nat} {ops : Array Oper} (hops : ops = sn25_ops) (T0 : Array Value) (hsz : T0.size = 726) (W : World) {Q : Exit → Act → World → Prop}
    (hend : ∀ (T : Array Value) (w : World), T.size = 726 → Below W.heap.size W w → (∀ x, x ∉ [252, 253, 14] → T[x]? = T0[x]?) → PtE ⟨10, 1, 0, 0, 0, 0, 3⟩ (T[14]?.getD undef) w → Q .normal ⟨T, []⟩ w) : (Code.region id ops false).wp Tryd.prog Q ⟨T0, []⟩ W := by
  subst hops
  refine wp_region_list ?_
  rw [← List.drop_zero (l := sn25_ops.toList)]
  refine wpAtS _ 252 (by kernel_rfl) fun o ho K hK => o_why ho (why_any 3 0 W) fun w1 b1 => hK _ _ ?_
  refine wpAtS _ 253 (by kernel_rfl) fun o ho K hK => o_by 252 ho (getS (by omega)) (by_any 1 ⟨10, 0, 0, 0, 0, 0, 3⟩ w1) fun w2 b2 => hK _ _ ?_
  refine wpAtS _ 14 (by kernel_rfl) fun o ho K hK => n_alloc ho (hK _ _ ?_)
  refine wpAtN _ (by kernel_rfl) fun o ho K hK => n_store 14 253 w2.heap.size ho (getS (by simp; omega)) ((getO (by decide)).trans (getS (by simp; omega))) (heap_alloc_new w2 _) (hK _ _ ?_)
  refine wpAtE (by kernel_rfl) (hend _ _ (by simpa using hsz) ((b1.trans (b2.mono b1.size)).trans (b_new.1.mono (Nat.le_trans b1.size b2.size))) (fun x hx => ?_) ?_)
  · simp only [List.mem_cons, List.not_mem_nil, or_false, not_or] at hx
    rw [getF (by omega), getF (by omega), getF (by omega)]
  · rw [getS (by simp; omega)]
    exact ⟨_, rfl, b_new.2⟩
noncomputable def sn42_ops : Array Oper := opsW Tryd.f3 42
theorem sn42 {id : Nat} {ops : Array Oper} (hops : ops = sn42_ops) (T0 : Array Value) (hsz : T0.size = 726) (W : World) (p10 : PtE ⟨1, 0, 1, 0, 0, 0, 0⟩ (T0[10]?.getD undef) W) {Q : Exit → Act → World → Prop}
    (hend : ∀ (T : Array Value) (w : World), T.size = 726 → Below W.heap.size W w → (∀ x, x ∉ [559, 21] → T[x]? = T0[x]?) → T[21]?.getD undef = .pointer (some ⟨W.heap.size, 0, none⟩) → w.heap[W.heap.size]? = some (.cells (evC ⟨1, 0, 1, 0, 0, 0, 0⟩) 27 (0, 0)) → Q .normal ⟨T, []⟩ w) : (Code.region id ops false).wp Tryd.prog Q ⟨T0, []⟩ W := by
  subst hops
  refine wp_region_list ?_
  rw [← List.drop_zero (l := sn42_ops.toList)]
  refine wpAtS _ 559 (by kernel_rfl) fun o ho K hK => n_load 10 ho p10 (hK _ _ ?_)
  refine wpAtS _ 21 (by kernel_rfl) fun o ho K hK => n_alloc ho (hK _ _ ?_)
  refine wpAtN _ (by kernel_rfl) fun o ho K hK => n_store 21 559 W.heap.size ho (getS (by simp; omega)) ((getO (by decide)).trans (getS (by omega))) (heap_alloc_new W _) (hK _ _ ?_)
  refine wpAtE (by kernel_rfl) (hend _ _ (by simpa using hsz) b_new.1 (fun x hx => ?_) ?_ b_new.2)
  · simp only [List.mem_cons, List.not_mem_nil, or_false, not_or] at hx
    rw [getF (by omega), getF (by omega)]
  · rw [getS (by simp; omega)]
noncomputable def sn43_ops : Array Oper := opsW Tryd.f3 43
theorem n_field4 {a : Act} {w : World} {K : Act → World → Prop} {Q : Exit → Act → World → Prop} {o : Oper} (x : Nat) {g : Nat} (ho : o.op = .fieldAddr 27 (.tmp x) 4) (hx : a.tmps[x]?.getD undef = .pointer (some ⟨g, 0, none⟩)) (hK : K (a.put o.dst (.pointer (some ⟨g, 4, none⟩))) w) : Oper.wp Tryd.prog o a w K Q := by
  obtain ⟨dst, op, type, pos, after, guard⟩ := o
  have ho' : op = _ := ho
  subst ho'
  clear ho
  go_simp
  exact hK
theorem n_store1 {a : Act} {w : World} {K : Act → World → Prop} {Q : Exit → Act → World → Prop} {o : Oper} (x : Nat) {g j : Nat} {v : Value} (ho : o.op = .store 3 (.tmp x) (.const (.int .i64 1))) (hx : a.tmps[x]?.getD undef = .pointer (some ⟨g, j, none⟩)) (hc : w.cell? ⟨g, j, none⟩ = some v) (hf : w.frozen? ⟨g, j, none⟩ = false) (hK : K (a.put o.dst undef) (w.setCell ⟨g, j, none⟩ (.int .i64 1))) : Oper.wp Tryd.prog o a w K Q := by
  obtain ⟨dst, op, type, pos, after, guard⟩ := o
  have ho' : op = _ := ho
  subst ho'
  clear ho
  go_simp
  exact hK
theorem sn43 {id : Nat} {ops : Array Oper} (hops : ops = sn43_ops) (T0 : Array Value) (hsz : T0.size = 726) (W0 W : World) (hb : Below W0.heap.size W0 W) (p : T0[21]?.getD undef = .pointer (some ⟨W0.heap.size, 0, none⟩)) (hr : W.heap[W0.heap.size]? = some (.cells (evC ⟨1, 0, 1, 0, 0, 0, 0⟩) 27 (0, 0))) {Q : Exit → Act → World → Prop}
    (hend : ∀ (T : Array Value) (w : World), T.size = 726 → Below W0.heap.size W0 w → (∀ x, x ∉ [560] → T[x]? = T0[x]?) → PtE ⟨1, 0, 1, 0, 1, 0, 0⟩ (T[21]?.getD undef) w → Q .normal ⟨T, []⟩ w) : (Code.region id ops false).wp Tryd.prog Q ⟨T0, []⟩ W := by
  subst hops
  refine wp_region_list ?_
  rw [← List.drop_zero (l := sn43_ops.toList)]
  have hfr : W.frozen? ⟨W0.heap.size, 4, none⟩ = false := by simp [World.frozen?, hr]
  refine wpAtS _ 560 (by kernel_rfl) fun o ho K hK => n_field4 21 ho p (hK _ _ ?_)
  refine wpAtN _ (by kernel_rfl) fun o ho K hK => n_store1 560 ho (getS (by omega)) (v := .int .i64 0) ((cell_of_row W _ _ _ _ _ hr).trans rfl) hfr (hK _ _ ?_)
  have h9 := setCell_eq_setRow W W0.heap.size 4 _ _ _ (.int .i64 1) hr
  refine wpAtE (by kernel_rfl) (hend _ _ (by simpa using hsz) ?_ (fun x hx => ?_) ?_)
  · rw [h9]
    exact below_setRow hb (Nat.le_refl _) _
  · simp only [List.mem_cons, List.not_mem_nil, or_false] at hx
    rw [getF (by omega)]
  · rw [getO (by decide), p]
    exact ⟨_, rfl, by rw [h9]; exact setRow_heap W _ _ _ _ _ hr⟩
end Go.Proofs.YtjennlkindbpoaaDoor
/-
  CONTRACT OF ShapeNames (layer 13): it returns true. Laid by gen/gen_snr.py. Conditions: CheckC.
-/
namespace Go.Proofs.YtjennlkindbpoaaDoor
set_option maxRecDepth 100000
open Go.RowKit Go.Deep
set_option linter.unusedVariables false
theorem evT {T : Array Value} {x : Nat} {v : Value} (h : T[x]?.getD undef = v) : (⟨T, []⟩ : Act).eval (.tmp x) = v := by simpa [Act.eval] using h
theorem four (w : World) : Below w.heap.size w ((((w.alloc (.cells #[.int .u8 1, .int .i64 0, .int .i64 0, .int .i64 0, .int .i64 0, .int .i64 0, .int .u8 0] 27)).alloc (.cells #[.int .u8 2, .int .i64 0, .int .i64 0, .int .i64 0, .int .i64 0, .int .i64 0, .int .u8 0] 27)).alloc (.cells #[.int .u8 3, .int .i64 0, .int .i64 0, .int .i64 2, .int .i64 0, .int .i64 0, .int .u8 0] 27)).alloc (.cells #[.int .u8 4, .int .i64 0, .int .i64 0, .int .i64 0, .int .i64 0, .int .i64 0, .int .u8 0] 27)) ∧
    ((((w.alloc (.cells #[.int .u8 1, .int .i64 0, .int .i64 0, .int .i64 0, .int .i64 0, .int .i64 0, .int .u8 0] 27)).alloc (.cells #[.int .u8 2, .int .i64 0, .int .i64 0, .int .i64 0, .int .i64 0, .int .i64 0, .int .u8 0] 27)).alloc (.cells #[.int .u8 3, .int .i64 0, .int .i64 0, .int .i64 2, .int .i64 0, .int .i64 0, .int .u8 0] 27)).alloc (.cells #[.int .u8 4, .int .i64 0, .int .i64 0, .int .i64 0, .int .i64 0, .int .i64 0, .int .u8 0] 27)).heap[w.heap.size]? = some (.cells (evC ⟨1, 0, 0, 0, 0, 0, 0⟩) 27 (0, 0)) ∧
    ((((w.alloc (.cells #[.int .u8 1, .int .i64 0, .int .i64 0, .int .i64 0, .int .i64 0, .int .i64 0, .int .u8 0] 27)).alloc (.cells #[.int .u8 2, .int .i64 0, .int .i64 0, .int .i64 0, .int .i64 0, .int .i64 0, .int .u8 0] 27)).alloc (.cells #[.int .u8 3, .int .i64 0, .int .i64 0, .int .i64 2, .int .i64 0, .int .i64 0, .int .u8 0] 27)).alloc (.cells #[.int .u8 4, .int .i64 0, .int .i64 0, .int .i64 0, .int .i64 0, .int .i64 0, .int .u8 0] 27)).heap[w.heap.size + 1]? = some (.cells (evC ⟨2, 0, 0, 0, 0, 0, 0⟩) 27 (0, 0)) ∧
    ((((w.alloc (.cells #[.int .u8 1, .int .i64 0, .int .i64 0, .int .i64 0, .int .i64 0, .int .i64 0, .int .u8 0] 27)).alloc (.cells #[.int .u8 2, .int .i64 0, .int .i64 0, .int .i64 0, .int .i64 0, .int .i64 0, .int .u8 0] 27)).alloc (.cells #[.int .u8 3, .int .i64 0, .int .i64 0, .int .i64 2, .int .i64 0, .int .i64 0, .int .u8 0] 27)).alloc (.cells #[.int .u8 4, .int .i64 0, .int .i64 0, .int .i64 0, .int .i64 0, .int .i64 0, .int .u8 0] 27)).heap[w.heap.size + 1 + 1]? = some (.cells (evC ⟨3, 0, 0, 2, 0, 0, 0⟩) 27 (0, 0)) ∧
    ((((w.alloc (.cells #[.int .u8 1, .int .i64 0, .int .i64 0, .int .i64 0, .int .i64 0, .int .i64 0, .int .u8 0] 27)).alloc (.cells #[.int .u8 2, .int .i64 0, .int .i64 0, .int .i64 0, .int .i64 0, .int .i64 0, .int .u8 0] 27)).alloc (.cells #[.int .u8 3, .int .i64 0, .int .i64 0, .int .i64 2, .int .i64 0, .int .i64 0, .int .u8 0] 27)).alloc (.cells #[.int .u8 4, .int .i64 0, .int .i64 0, .int .i64 0, .int .i64 0, .int .i64 0, .int .u8 0] 27)).heap[w.heap.size + 1 + 1 + 1]? = some (.cells (evC ⟨4, 0, 0, 0, 0, 0, 0⟩) 27 (0, 0)) := by
  have s1 : ∀ (W : World) (c : Array Value), (W.alloc (.cells c 27)).heap.size = W.heap.size + 1 := fun W c => by simp
  have n1 : ∀ (W : World) (c : Array Value) (g : Nat), g = W.heap.size → (W.alloc (.cells c 27)).heap[g]? = some (.cells c 27 (0, 0)) := fun W c g h => by rw [h]; exact heap_alloc_new W _
  have b1 : ∀ (W : World) (c : Array Value), Below W.heap.size W (W.alloc (.cells c 27)) := fun W c => (Below.refl _ _).alloc (Nat.le_refl _) _
  refine ⟨(((b1 _ _).alloc (by simp) _).alloc (by simp; omega) _).alloc (by simp; omega) _, ?_, ?_, ?_, ?_⟩
  · exact row_stays (row_stays (row_stays (n1 _ _ _ rfl) (b1 _ _)) (b1 _ _)) (b1 _ _)
  · exact row_stays (row_stays (n1 _ _ _ (by rw [s1])) (b1 _ _)) (b1 _ _)
  · exact row_stays (n1 _ _ _ (by rw [s1, s1])) (b1 _ _)
  · exact n1 _ _ _ (by rw [s1, s1, s1])
theorem rows6 (w9 : World) : ∀ k < 6, ∃ T V S : Int, i64P T ∧ i64P V ∧ i64P S ∧ checkF T V S [] = (0, 1) ∧ ((⟨w9.heap.size, 0, none⟩ : Addr).add (k * 4)).block < (w9.alloc (.cells #[.int .i64 (-1), .int .i64 1, .int .i64 1, .slice none 0 0, .int .i64 7, .int .i64 1, .int .i64 1, .slice none 0 0, .int .i64 0, .int .i64 0, .int .i64 1, .slice none 0 0, .int .i64 0, .int .i64 33, .int .i64 1, .slice none 0 0, .int .i64 0, .int .i64 2, .int .i64 0, .slice none 0 0, .int .i64 0, .int .i64 2, .int .i64 3, .slice none 0 0] 35)).heap.size ∧ (w9.alloc (.cells #[.int .i64 (-1), .int .i64 1, .int .i64 1, .slice none 0 0, .int .i64 7, .int .i64 1, .int .i64 1, .slice none 0 0, .int .i64 0, .int .i64 0, .int .i64 1, .slice none 0 0, .int .i64 0, .int .i64 33, .int .i64 1, .slice none 0 0, .int .i64 0, .int .i64 2, .int .i64 0, .slice none 0 0, .int .i64 0, .int .i64 2, .int .i64 3, .slice none 0 0] 35)).cell? ((⟨w9.heap.size, 0, none⟩ : Addr).add (k * 4)) = some (.int .i64 T) ∧ (w9.alloc (.cells #[.int .i64 (-1), .int .i64 1, .int .i64 1, .slice none 0 0, .int .i64 7, .int .i64 1, .int .i64 1, .slice none 0 0, .int .i64 0, .int .i64 0, .int .i64 1, .slice none 0 0, .int .i64 0, .int .i64 33, .int .i64 1, .slice none 0 0, .int .i64 0, .int .i64 2, .int .i64 0, .slice none 0 0, .int .i64 0, .int .i64 2, .int .i64 3, .slice none 0 0] 35)).cell? ⟨((⟨w9.heap.size, 0, none⟩ : Addr).add (k * 4)).block, ((⟨w9.heap.size, 0, none⟩ : Addr).add (k * 4)).off + 1, none⟩ = some (.int .i64 V) ∧ (w9.alloc (.cells #[.int .i64 (-1), .int .i64 1, .int .i64 1, .slice none 0 0, .int .i64 7, .int .i64 1, .int .i64 1, .slice none 0 0, .int .i64 0, .int .i64 0, .int .i64 1, .slice none 0 0, .int .i64 0, .int .i64 33, .int .i64 1, .slice none 0 0, .int .i64 0, .int .i64 2, .int .i64 0, .slice none 0 0, .int .i64 0, .int .i64 2, .int .i64 3, .slice none 0 0] 35)).cell? ⟨((⟨w9.heap.size, 0, none⟩ : Addr).add (k * 4)).block, ((⟨w9.heap.size, 0, none⟩ : Addr).add (k * 4)).off + 2, none⟩ = some (.int .i64 S) ∧ (w9.alloc (.cells #[.int .i64 (-1), .int .i64 1, .int .i64 1, .slice none 0 0, .int .i64 7, .int .i64 1, .int .i64 1, .slice none 0 0, .int .i64 0, .int .i64 0, .int .i64 1, .slice none 0 0, .int .i64 0, .int .i64 33, .int .i64 1, .slice none 0 0, .int .i64 0, .int .i64 2, .int .i64 0, .slice none 0 0, .int .i64 0, .int .i64 2, .int .i64 3, .slice none 0 0] 35)).cell? ⟨((⟨w9.heap.size, 0, none⟩ : Addr).add (k * 4)).block, ((⟨w9.heap.size, 0, none⟩ : Addr).add (k * 4)).off + 3, none⟩ = some (.slice none 0 0) := by
  intro k hk
  generalize hW : w9.alloc _ = W0
  have hr := heap_alloc_new w9 (.cells #[.int .i64 (-1), .int .i64 1, .int .i64 1, .slice none 0 0, .int .i64 7, .int .i64 1, .int .i64 1, .slice none 0 0, .int .i64 0, .int .i64 0, .int .i64 1, .slice none 0 0, .int .i64 0, .int .i64 33, .int .i64 1, .slice none 0 0, .int .i64 0, .int .i64 2, .int .i64 0, .slice none 0 0, .int .i64 0, .int .i64 2, .int .i64 3, .slice none 0 0] 35 (0, 0))
  rw [hW] at hr
  have hc : ∀ j, W0.cell? ⟨w9.heap.size, j, none⟩ = _ := fun j => cell_of_row W0 w9.heap.size j _ _ _ hr
  have hs : w9.heap.size < W0.heap.size := by rw [← hW]; simp
  have ha : ∀ m, (⟨w9.heap.size, 0, none⟩ : Addr).add m = ⟨w9.heap.size, m, none⟩ := fun m => by
    by_cases h0 : m = 0
    · rw [h0]
      rfl
    · simp [Addr.add, h0]
  rw [ha]
  simp only [hc]
  match k, hk with
  | 0, _ => exact ⟨-1, 1, 1, by unfold i64P; omega, by unfold i64P; omega, by unfold i64P; omega, by kernel_rfl, hs, rfl, rfl, rfl, rfl⟩
  | 1, _ => exact ⟨7, 1, 1, by unfold i64P; omega, by unfold i64P; omega, by unfold i64P; omega, by kernel_rfl, hs, rfl, rfl, rfl, rfl⟩
  | 2, _ => exact ⟨0, 0, 1, by unfold i64P; omega, by unfold i64P; omega, by unfold i64P; omega, by kernel_rfl, hs, rfl, rfl, rfl, rfl⟩
  | 3, _ => exact ⟨0, 33, 1, by unfold i64P; omega, by unfold i64P; omega, by unfold i64P; omega, by kernel_rfl, hs, rfl, rfl, rfl, rfl⟩
  | 4, _ => exact ⟨0, 2, 0, by unfold i64P; omega, by unfold i64P; omega, by unfold i64P; omega, by kernel_rfl, hs, rfl, rfl, rfl, rfl⟩
  | 5, _ => exact ⟨0, 2, 3, by unfold i64P; omega, by unfold i64P; omega, by unfold i64P; omega, by kernel_rfl, hs, rfl, rfl, rfl, rfl⟩
  | k + 6, h => exact absurd h (by omega)
set_option maxHeartbeats 4000000 in
theorem names13_any {Tb : World → Prop} (HC : CheckC Tb) (w : World) (ht : Tb w) :
    Calls Tryd.prog 3 #[] w fun r w' => r = .returned (.bool true) ∧ Below w.heap.size w w' := by
  have H := Lib.hid (works_any HC w ht)
  have H7 := Lib.hid (fun W => ev_any 1 0 0 W)
  have HEV := Lib.hid (fun k p v W => ev_any k p v W)
  have HBY := Lib.hid (fun W => by_any 3 ⟨1, 0, 0, 0, 0, 0, 0⟩ W)
  have H6 := Lib.hid (fun W => next_nil13 ⟨1, 0, 0, 0, 0, 0, 0⟩ W)
  unfold evV at H7 H6 HEV HBY
  simp only at H7 H6 HEV HBY
  go_enter Tryd.func3, Tryd.ntmps3
  go_wp2_with fail
  refine H.out.mono ?_
  rintro _ w1 ⟨rfl, b1⟩
  go_wp2_with fail
  refine (H7.out _).mono ?_
  rintro _ w2 ⟨rfl, b2⟩
  go_wp2_with fail
  refine (H6.out _).mono ?_
  rintro _ w3 ⟨rfl, b3⟩
  go_wp2_with fail
  refine (owner_nil 0 _).mono ?_
  rintro _ w4 ⟨rfl, b4⟩
  go_wp2_with fail
  refine (version_nil 0 _).mono ?_
  rintro _ w5 ⟨rfl, b5⟩
  go_wp2_with fail
  refine (clock_nil _).mono ?_
  rintro _ w6 ⟨rfl, b6⟩
  go_wp2_with fail
  refine (commits_nil 0 _).mono ?_
  rintro _ w7 ⟨rfl, b7⟩
  go_wp2_with fail
  refine (open_nil 0 _).mono ?_
  rintro _ w8 ⟨rfl, b8⟩
  go_wp2_with fail
  refine (copy_nil _).mono ?_
  rintro _ w9 ⟨rfl, b9⟩
  have B9 : Hid (Below w.heap.size w w9) := (((((((b1.trans (b2.mono b1.size)).trans (b3.mono (by have := b1.size; have := b2.size; omega))).trans (b4.mono (by have := b1.size; have := b2.size; have := b3.size; omega))).trans (b5.mono (by have := b1.size; have := b2.size; have := b3.size; have := b4.size; omega))).trans (b6.mono (by have := b1.size; have := b2.size; have := b3.size; have := b4.size; have := b5.size; omega))).trans (b7.mono (by have := b1.size; have := b2.size; have := b3.size; have := b4.size; have := b5.size; have := b6.size; omega))).trans (b8.mono (by have := b1.size; have := b2.size; have := b3.size; have := b4.size; have := b5.size; have := b6.size; have := b7.size; omega))).trans (b9.mono (by have := b1.size; have := b2.size; have := b3.size; have := b4.size; have := b5.size; have := b6.size; have := b7.size; have := b8.size; omega))
  clear b1 b2 b3 b4 b5 b6 b7 b8 b9 H6
  go_wp2_with fail
  have b10 : Below w.heap.size w (w9.alloc (.cells #[.int .i64 (-1), .int .i64 1, .int .i64 1, .slice none 0 0, .int .i64 7, .int .i64 1, .int .i64 1, .slice none 0 0, .int .i64 0, .int .i64 0, .int .i64 1, .slice none 0 0, .int .i64 0, .int .i64 33, .int .i64 1, .slice none 0 0, .int .i64 0, .int .i64 2, .int .i64 0, .slice none 0 0, .int .i64 0, .int .i64 2, .int .i64 3, .slice none 0 0] 35)) := B9.out.alloc B9.out.size _
  have HB0 := Lib.hid b10
  have HR0 := Lib.hid (rows6 w9)
  clear b10 B9
  generalize hp : (⟨w9.heap.size, 0, none⟩ : Addr) = p
  rw [hp] at HR0
  clear hp
  generalize w9.alloc _ = W0 at *
  have HCk : Hid (∀ W, Below w.heap.size w W → ∀ T V S : Int, i64P T → i64P V → i64P S → checkF T V S [] = (0, 1) → Calls Tryd.prog 14 #[.agg #[.int .i64 T, .int .i64 V, .int .i64 S, .slice none 0 0]] W fun r w' => r = .returned (.tuple #[.int .i64 0, .int .i64 1]) ∧ Below W.heap.size W w') := fun W hb T V S hT hV hS hc => by
    have := HC.check W (HC.below w W ht hb) T V S none [] 0 hT hV hS (by simp) (fun i hi => absurd hi (by simp))
    rw [hc] at this
    exact this
  go_loopw [72] (fun iv wr => ∃ k : Nat, k ≤ 6 ∧ iv = .int .i64 k ∧ Hid (Below W0.heap.size W0 wr)) (fun iv _ => 6 - (intOf iv).toNat)
  case atStart => exact ⟨0, by omega, rfl, Below.refl _ _⟩
  case round =>
    obtain ⟨k, hk, rfl, hB⟩ := hrel
    by_cases hlt : k < 6
    · obtain ⟨T, V, S, hT, hV, hS, hc, hpb, c0, c1, c2, c3⟩ := HR0.out k hlt
      have HQ := Lib.hid (fun W hb => HCk.out W hb T V S hT hV hS hc)
      have c0 := (hB.out.cell (p := p.add (k * 4)) hpb).trans c0
      have c1 := (hB.out.cell (p := ⟨(p.add (k * 4)).block, (p.add (k * 4)).off + 1, none⟩) hpb).trans c1
      have c2 := (hB.out.cell (p := ⟨(p.add (k * 4)).block, (p.add (k * 4)).off + 2, none⟩) hpb).trans c2
      have c3 := (hB.out.cell (p := ⟨(p.add (k * 4)).block, (p.add (k * 4)).off + 3, none⟩) hpb).trans c3
      have hkk : (k : Int) < 6 := by omega
      clear hc hT hV hS hpb
      go_wp2_with fail
      have hb2 := HB0.out.trans ((hB.out.alloc (Nat.le_trans hB.out.size (Nat.le_refl _)) (.cells #[.int .i64 T, .int .i64 V, .int .i64 S, .slice none 0 0] 35)).mono HB0.out.size)
      refine (HQ.out _ hb2).mono ?_
      rintro _ w10 ⟨rfl, b10⟩
      have B10 : Hid (Below W0.heap.size W0 w10) := (hB.out.alloc hB.out.size _).trans (b10.mono (hB.out.alloc hB.out.size _).size)
      clear b10 hb2
      go_wp2_with fail
      refine ⟨?_, ?measure⟩
      · exact ⟨k + 1, by omega, by go_num, B10⟩
      case measure => simp [intOf]; omega
    · obtain rfl : k = 6 := by omega
      go_wp2_with fail
      have hB1 : Below w.heap.size w wr := HB0.out.trans (hB.out.mono HB0.out.size)
      have hf := fine_any HC wr (HC.below w wr ht hB1) 0 1 1 none [] 0 (by unfold i64P; omega) (by unfold i64P; omega) (by unfold i64P; omega) (by simp) (fun i hi => absurd hi (by simp))
      have hfb : fineB 0 1 1 [] = true := by kernel_rfl
      rw [hfb] at hf
      refine (show Calls Tryd.prog 15 #[.agg #[.int .i64 0, .int .i64 1, .int .i64 1, .slice none 0 0]] wr _ from hf).mono ?_
      rintro _ v1 ⟨rfl, d1⟩
      have D1 : Hid (Below w.heap.size w v1) := hB1.trans (d1.mono hB1.size)
      clear hB1 hf hfb d1 HB0 HR0 HCk hB hk hlt
      have HBad : Hid (∀ (e : Ev) (W : World) (g : Nat), Below w.heap.size w W → W.heap[g]? = some (.cells (evC e) 27 (0, 0)) → okL [e] = true → badB [e] = true → Calls Tryd.prog 16 #[.slice (some ⟨g, 0, none⟩) 1 1] W fun r w' => r = .returned (.bool true) ∧ Below W.heap.size W w') := fun e W g hb hr hok hbd => by
        have := bad_any HC W (HC.below w W ht hb) (some ⟨g, 0, none⟩) [e] 1 (by simp) (by simp) (EvsAt.row (by simpa [evsC] using hr) (Array.getElem?_eq_some_iff.1 hr).1 (ok_of hok))
        rw [hbd] at this
        exact this
      go_wp2_with fail
      refine (HEV.out 1 0 (-1) _).mono ?_
      rintro _ v2 ⟨rfl, d2⟩
      have D2 : Hid (Below w.heap.size w v2) := D1.out.trans (d2.mono D1.out.size)
      clear d2 D1
      go_wp2_with fail
      refine (HBad.out ⟨1, 0, 0, 0, -1, 0, 0⟩ _ _ (D2.out.alloc D2.out.size _) (heap_alloc_new v2 _) (by kernel_rfl) (by kernel_rfl)).mono ?_
      rintro _ v3 ⟨rfl, d3⟩
      have D3 : Hid (Below w.heap.size w v3) := (D2.out.alloc D2.out.size _).trans (d3.mono (D2.out.alloc D2.out.size _).size)
      clear d3 D2
      go_wp2_with fail
      refine (HEV.out 1 0 0 _).mono ?_
      rintro _ v4 ⟨rfl, d4⟩
      have D4 : Hid (Below w.heap.size w v4) := D3.out.trans (d4.mono D3.out.size)
      clear d4 D3
      go_wp2_with fail
      refine (HBY.out v4).mono ?_
      rintro _ v5 ⟨rfl, d5⟩
      have D5 : Hid (Below w.heap.size w v5) := D4.out.trans (d5.mono D4.out.size)
      clear d5 D4
      go_wp2_with fail
      refine (HBad.out ⟨1, 3, 0, 0, 0, 0, 0⟩ _ _ (D5.out.alloc D5.out.size _) (heap_alloc_new v5 _) (by kernel_rfl) (by kernel_rfl)).mono ?_
      rintro _ v6 ⟨rfl, d6⟩
      have D6 : Hid (Below w.heap.size w v6) := (D5.out.alloc D5.out.size _).trans (d6.mono (D5.out.alloc D5.out.size _).size)
      clear d6 D5
      go_wp2_with fail
      refine (HEV.out 1 0 0 _).mono ?_
      rintro _ v7 ⟨rfl, d7⟩
      have D7 : Hid (Below w.heap.size w v7) := D6.out.trans (d7.mono D6.out.size)
      clear d7 D6
      go_wp2_with fail
      refine (HEV.out 2 0 0 _).mono ?_
      rintro _ v8 ⟨rfl, d8⟩
      have D8 : Hid (Below w.heap.size w v8) := D7.out.trans (d8.mono D7.out.size)
      clear d8 D7
      go_wp2_with fail
      refine (HEV.out 3 2 0 _).mono ?_
      rintro _ v9 ⟨rfl, d9⟩
      have D9 : Hid (Below w.heap.size w v9) := D8.out.trans (d9.mono D8.out.size)
      clear d9 D8
      go_wp2_with fail
      refine (HEV.out 4 0 0 _).mono ?_
      rintro _ v10 ⟨rfl, d10⟩
      have D10 : Hid (Below w.heap.size w v10) := D9.out.trans (d10.mono D9.out.size)
      clear d10 D9
      go_wp2_with fail
      have D11 := Lib.hid (D10.out.trans ((four v10).1.mono D10.out.size))
      have F4 := Lib.hid (four v10).2
      obtain ⟨g6, h6⟩ : ∃ g, g = v10.heap.size := ⟨_, rfl⟩
      rw [← h6] at F4 ⊢
      obtain ⟨g7, h7⟩ : ∃ g, g = g6 + 1 := ⟨_, rfl⟩
      rw [← h7] at F4 ⊢
      obtain ⟨g8, h8⟩ : ∃ g, g = g7 + 1 := ⟨_, rfl⟩
      rw [← h8] at F4 ⊢
      obtain ⟨g9, h9⟩ : ∃ g, g = g8 + 1 := ⟨_, rfl⟩
      rw [← h9] at F4 ⊢
      clear h6 h7 h8 h9 D10
      generalize (((v10.alloc _).alloc _).alloc _).alloc _ = v11 at *
      refine (HEV.out 1 0 0 _).mono ?_
      rintro _ v12 ⟨rfl, d12⟩
      have D12 : Hid (Below w.heap.size w v12) := D11.out.trans (d12.mono D11.out.size)
      have P6 : Hid (v12.heap[g6]? = some (.cells (evC ⟨1, 0, 0, 0, 0, 0, 0⟩) 27 (0, 0))) := row_stays F4.out.1 d12
      have P7 : Hid (v12.heap[g7]? = some (.cells (evC ⟨2, 0, 0, 0, 0, 0, 0⟩) 27 (0, 0))) := row_stays F4.out.2.1 d12
      have P8 : Hid (v12.heap[g8]? = some (.cells (evC ⟨3, 0, 0, 2, 0, 0, 0⟩) 27 (0, 0))) := row_stays F4.out.2.2.1 d12
      have P9 : Hid (v12.heap[g9]? = some (.cells (evC ⟨4, 0, 0, 0, 0, 0, 0⟩) 27 (0, 0))) := row_stays F4.out.2.2.2 d12
      clear d12 D11 F4
      go_wp2_with fail
      rename_i K1 h1 K0 h0
      have b1x : Below v12.heap.size v12 (v12.alloc (.cells #[.int .u8 1, .int .i64 0, .int .i64 1, .int .i64 0, .int .i64 0, .int .i64 0, .int .u8 0] 27)) := (Below.refl _ _).alloc (Nat.le_refl _) _
      have B1 : Hid (Below w.heap.size w (v12.alloc (.cells #[.int .u8 1, .int .i64 0, .int .i64 1, .int .i64 0, .int .i64 0, .int .i64 0, .int .u8 0] 27))) := D12.out.trans (b1x.mono D12.out.size)
      have HCC := Lib.hid HC
      have HT := Lib.hid (fun w1 (hb : Below w.heap.size w w1) => HC.below w w1 ht hb)
      refine sn16 HCC.out (by kernel_rfl) _ rfl _ (HT.out _ B1.out) ⟨g6, rfl, row_stays P6.out b1x⟩ ⟨v12.heap.size, rfl, heap_alloc_new v12 _⟩ ?_
      intro T2 w2 s2 b2 f2 z2
      have B2 : Hid (Below w.heap.size w w2) := B1.out.trans (b2.mono B1.out.size)
      have p6 : PtE ⟨1, 0, 0, 0, 0, 0, 0⟩ (T2[6]?.getD undef) w2 := by rw [f2 6 (by decide)]; exact PtE.stays ⟨g6, rfl, row_stays P6.out b1x⟩ b2
      have p7 : PtE ⟨2, 0, 0, 0, 0, 0, 0⟩ (T2[7]?.getD undef) w2 := by rw [f2 7 (by decide)]; exact PtE.stays ⟨g7, rfl, row_stays P7.out b1x⟩ b2
      have p8 : PtE ⟨3, 0, 0, 2, 0, 0, 0⟩ (T2[8]?.getD undef) w2 := by rw [f2 8 (by decide)]; exact PtE.stays ⟨g8, rfl, row_stays P8.out b1x⟩ b2
      have p9 : PtE ⟨4, 0, 0, 0, 0, 0, 0⟩ (T2[9]?.getD undef) w2 := by rw [f2 9 (by decide)]; exact PtE.stays ⟨g9, rfl, row_stays P9.out b1x⟩ b2
      have p10 : PtE ⟨1, 0, 1, 0, 0, 0, 0⟩ (T2[10]?.getD undef) w2 := by rw [f2 10 (by decide)]; exact PtE.stays ⟨v12.heap.size, rfl, heap_alloc_new v12 _⟩ b2
      clear P6 P7 P8 P9 b1x D12 B1 b2 f2
      refine h0 _ _ ?_
      refine wp_cond_false (evT z2) (wp_skip ?_)
      refine h1 _ _ ?_
      refine wp_seq ?_
      refine wp_seq ?_
      refine sn18 HCC.out (by kernel_rfl) T2 s2 w2 (HT.out _ B2.out) p6 p7 p8 ?_
      intro T3 w3 s3 b3 f3 z3
      have B3 : Hid (Below w.heap.size w w3) := B2.out.trans (b3.mono B2.out.size)
      have p6 := p6.next (f3 6 (by decide)) b3
      have p7 := p7.next (f3 7 (by decide)) b3
      have p8 := p8.next (f3 8 (by decide)) b3
      have p9 := p9.next (f3 9 (by decide)) b3
      have p10 := p10.next (f3 10 (by decide)) b3
      show Code.wp _ _ _ _ _
      refine wp_cond_false (evT z3) (wp_skip ?_)
      show Code.wp _ _ _ _ _
      refine wp_seq ?_
      refine sn20 HCC.out (by kernel_rfl) T3 s3 w3 (HT.out _ B3.out)  ?_
      intro T4 w4 s4 b4 f4 p11
      have B4 : Hid (Below w.heap.size w w4) := B3.out.trans (b4.mono B3.out.size)
      have p6 := p6.next (f4 6 (by decide)) b4
      have p7 := p7.next (f4 7 (by decide)) b4
      have p8 := p8.next (f4 8 (by decide)) b4
      have p9 := p9.next (f4 9 (by decide)) b4
      have p10 := p10.next (f4 10 (by decide)) b4
      show Code.wp _ _ _ _ _
      refine wp_seq ?_
      refine sn21 (by kernel_rfl) T4 s4 w4 ?_
      intro T5 w5 s5 b5 f5 p12
      have B5 : Hid (Below w.heap.size w w5) := B4.out.trans (b5.mono B4.out.size)
      have p6 := p6.next (f5 6 (by decide)) b5
      have p7 := p7.next (f5 7 (by decide)) b5
      have p8 := p8.next (f5 8 (by decide)) b5
      have p9 := p9.next (f5 9 (by decide)) b5
      have p10 := p10.next (f5 10 (by decide)) b5
      have p11 := p11.next (f5 11 (by decide)) b5
      show Code.wp _ _ _ _ _
      refine wp_seq ?_
      refine wp_seq ?_
      refine sn22 HCC.out (by kernel_rfl) T5 s5 w5 (HT.out _ B5.out) p6 p7 p8 p11 p12 ?_
      intro T6 w6 s6 b6 f6 z6
      have B6 : Hid (Below w.heap.size w w6) := B5.out.trans (b6.mono B5.out.size)
      have p6 := p6.next (f6 6 (by decide)) b6
      have p7 := p7.next (f6 7 (by decide)) b6
      have p8 := p8.next (f6 8 (by decide)) b6
      have p9 := p9.next (f6 9 (by decide)) b6
      have p10 := p10.next (f6 10 (by decide)) b6
      have p11 := p11.next (f6 11 (by decide)) b6
      have p12 := p12.next (f6 12 (by decide)) b6
      show Code.wp _ _ _ _ _
      refine wp_cond_false (evT z6) (wp_skip ?_)
      show Code.wp _ _ _ _ _
      refine wp_seq ?_
      refine sn24 HCC.out (by kernel_rfl) T6 s6 w6 (HT.out _ B6.out) p6 p7 p11 ?_
      intro T7 w7 s7 b7 f7 p13
      have B7 : Hid (Below w.heap.size w w7) := B6.out.trans (b7.mono B6.out.size)
      have p6 := p6.next (f7 6 (by decide)) b7
      have p7 := p7.next (f7 7 (by decide)) b7
      have p8 := p8.next (f7 8 (by decide)) b7
      have p9 := p9.next (f7 9 (by decide)) b7
      have p10 := p10.next (f7 10 (by decide)) b7
      have p11 := p11.next (f7 11 (by decide)) b7
      have p12 := p12.next (f7 12 (by decide)) b7
      show Code.wp _ _ _ _ _
      refine wp_seq ?_
      refine sn25 (by kernel_rfl) T7 s7 w7 ?_
      intro T8 w8 s8 b8 f8 p14
      have B8 : Hid (Below w.heap.size w w8) := B7.out.trans (b8.mono B7.out.size)
      have p6 := p6.next (f8 6 (by decide)) b8
      have p7 := p7.next (f8 7 (by decide)) b8
      have p8 := p8.next (f8 8 (by decide)) b8
      have p9 := p9.next (f8 9 (by decide)) b8
      have p10 := p10.next (f8 10 (by decide)) b8
      have p11 := p11.next (f8 11 (by decide)) b8
      have p12 := p12.next (f8 12 (by decide)) b8
      have p13 := p13.next (f8 13 (by decide)) b8
      show Code.wp _ _ _ _ _
      refine wp_seq ?_
      refine wp_seq ?_
      refine sn26 HCC.out (by kernel_rfl) T8 s8 w8 (HT.out _ B8.out) p6 p7 p8 p9 p13 p14 ?_
      intro T9 w9 s9 b9 f9 z9
      have B9 : Hid (Below w.heap.size w w9) := B8.out.trans (b9.mono B8.out.size)
      have p6 := p6.next (f9 6 (by decide)) b9
      have p7 := p7.next (f9 7 (by decide)) b9
      have p8 := p8.next (f9 8 (by decide)) b9
      have p9 := p9.next (f9 9 (by decide)) b9
      have p10 := p10.next (f9 10 (by decide)) b9
      have p11 := p11.next (f9 11 (by decide)) b9
      have p12 := p12.next (f9 12 (by decide)) b9
      show Code.wp _ _ _ _ _
      refine wp_cond_false (evT z9) (wp_skip ?_)
      show Code.wp _ _ _ _ _
      refine wp_seq ?_
      refine sn28 HCC.out (by kernel_rfl) T9 s9 w9 (HT.out _ B9.out) p6 p9 ?_
      intro T10 w10 s10 b10 f10 p15
      have B10 : Hid (Below w.heap.size w w10) := B9.out.trans (b10.mono B9.out.size)
      have p6 := p6.next (f10 6 (by decide)) b10
      have p7 := p7.next (f10 7 (by decide)) b10
      have p8 := p8.next (f10 8 (by decide)) b10
      have p9 := p9.next (f10 9 (by decide)) b10
      have p10 := p10.next (f10 10 (by decide)) b10
      have p11 := p11.next (f10 11 (by decide)) b10
      have p12 := p12.next (f10 12 (by decide)) b10
      show Code.wp _ _ _ _ _
      refine wp_seq ?_
      refine wp_seq ?_
      refine sn29 HCC.out (by kernel_rfl) T10 s10 w10 (HT.out _ B10.out) p9 p15 ?_
      intro T11 w11 s11 b11 f11 z11
      have B11 : Hid (Below w.heap.size w w11) := B10.out.trans (b11.mono B10.out.size)
      have p6 := p6.next (f11 6 (by decide)) b11
      have p7 := p7.next (f11 7 (by decide)) b11
      have p8 := p8.next (f11 8 (by decide)) b11
      have p9 := p9.next (f11 9 (by decide)) b11
      have p10 := p10.next (f11 10 (by decide)) b11
      have p11 := p11.next (f11 11 (by decide)) b11
      have p12 := p12.next (f11 12 (by decide)) b11
      show Code.wp _ _ _ _ _
      refine wp_cond_false (evT z11) (wp_skip ?_)
      show Code.wp _ _ _ _ _
      refine wp_seq ?_
      refine sn31 HCC.out (by kernel_rfl) T11 s11 w11 (HT.out _ B11.out) p6 p11 p12 ?_
      intro T12 w12 s12 b12 f12 p16
      have B12 : Hid (Below w.heap.size w w12) := B11.out.trans (b12.mono B11.out.size)
      have p6 := p6.next (f12 6 (by decide)) b12
      have p7 := p7.next (f12 7 (by decide)) b12
      have p8 := p8.next (f12 8 (by decide)) b12
      have p9 := p9.next (f12 9 (by decide)) b12
      have p10 := p10.next (f12 10 (by decide)) b12
      have p11 := p11.next (f12 11 (by decide)) b12
      have p12 := p12.next (f12 12 (by decide)) b12
      show Code.wp _ _ _ _ _
      refine wp_seq ?_
      refine wp_seq ?_
      refine sn32 HCC.out (by kernel_rfl) T12 s12 w12 (HT.out _ B12.out) p6 p16 ?_
      intro T13 w13 s13 b13 f13 z13
      have B13 : Hid (Below w.heap.size w w13) := B12.out.trans (b13.mono B12.out.size)
      have p6 := p6.next (f13 6 (by decide)) b13
      have p7 := p7.next (f13 7 (by decide)) b13
      have p8 := p8.next (f13 8 (by decide)) b13
      have p9 := p9.next (f13 9 (by decide)) b13
      have p10 := p10.next (f13 10 (by decide)) b13
      have p11 := p11.next (f13 11 (by decide)) b13
      have p12 := p12.next (f13 12 (by decide)) b13
      show Code.wp _ _ _ _ _
      refine wp_cond_false (evT z13) (wp_skip ?_)
      show Code.wp _ _ _ _ _
      refine wp_seq ?_
      refine sn34 HCC.out (by kernel_rfl) T13 s13 w13 (HT.out _ B13.out) p6 p7 p8 ?_
      intro T14 w14 s14 b14 f14 p17
      have B14 : Hid (Below w.heap.size w w14) := B13.out.trans (b14.mono B13.out.size)
      have p6 := p6.next (f14 6 (by decide)) b14
      have p7 := p7.next (f14 7 (by decide)) b14
      have p8 := p8.next (f14 8 (by decide)) b14
      have p9 := p9.next (f14 9 (by decide)) b14
      have p10 := p10.next (f14 10 (by decide)) b14
      have p11 := p11.next (f14 11 (by decide)) b14
      have p12 := p12.next (f14 12 (by decide)) b14
      show Code.wp _ _ _ _ _
      refine wp_seq ?_
      refine sn35 HCC.out (by kernel_rfl) T14 s14 w14 (HT.out _ B14.out) p6 ?_
      intro T15 w15 s15 b15 f15 p18
      have B15 : Hid (Below w.heap.size w w15) := B14.out.trans (b15.mono B14.out.size)
      have p6 := p6.next (f15 6 (by decide)) b15
      have p7 := p7.next (f15 7 (by decide)) b15
      have p8 := p8.next (f15 8 (by decide)) b15
      have p9 := p9.next (f15 9 (by decide)) b15
      have p10 := p10.next (f15 10 (by decide)) b15
      have p11 := p11.next (f15 11 (by decide)) b15
      have p12 := p12.next (f15 12 (by decide)) b15
      have p17 := p17.next (f15 17 (by decide)) b15
      show Code.wp _ _ _ _ _
      refine wp_seq ?_
      refine wp_seq ?_
      refine sn36 HCC.out (by kernel_rfl) T15 s15 w15 (HT.out _ B15.out) p6 p9 p17 p18 ?_
      intro T16 w16 s16 b16 f16 z16
      have B16 : Hid (Below w.heap.size w w16) := B15.out.trans (b16.mono B15.out.size)
      have p6 := p6.next (f16 6 (by decide)) b16
      have p7 := p7.next (f16 7 (by decide)) b16
      have p8 := p8.next (f16 8 (by decide)) b16
      have p9 := p9.next (f16 9 (by decide)) b16
      have p10 := p10.next (f16 10 (by decide)) b16
      have p11 := p11.next (f16 11 (by decide)) b16
      have p12 := p12.next (f16 12 (by decide)) b16
      show Code.wp _ _ _ _ _
      refine wp_cond_false (evT z16) (wp_skip ?_)
      show Code.wp _ _ _ _ _
      refine wp_seq ?_
      refine sn38 HCC.out (by kernel_rfl) T16 s16 w16 (HT.out _ B16.out) p6 ?_
      intro T17 w17 s17 b17 f17 p19
      have B17 : Hid (Below w.heap.size w w17) := B16.out.trans (b17.mono B16.out.size)
      have p6 := p6.next (f17 6 (by decide)) b17
      have p7 := p7.next (f17 7 (by decide)) b17
      have p8 := p8.next (f17 8 (by decide)) b17
      have p9 := p9.next (f17 9 (by decide)) b17
      have p10 := p10.next (f17 10 (by decide)) b17
      have p11 := p11.next (f17 11 (by decide)) b17
      have p12 := p12.next (f17 12 (by decide)) b17
      show Code.wp _ _ _ _ _
      refine wp_seq ?_
      refine sn39 HCC.out (by kernel_rfl) T17 s17 w17 (HT.out _ B17.out) p6 p7 p8 p9 p19 ?_
      intro T18 w18 s18 b18 f18 p20
      have B18 : Hid (Below w.heap.size w w18) := B17.out.trans (b18.mono B17.out.size)
      have p6 := p6.next (f18 6 (by decide)) b18
      have p7 := p7.next (f18 7 (by decide)) b18
      have p8 := p8.next (f18 8 (by decide)) b18
      have p9 := p9.next (f18 9 (by decide)) b18
      have p10 := p10.next (f18 10 (by decide)) b18
      have p11 := p11.next (f18 11 (by decide)) b18
      have p12 := p12.next (f18 12 (by decide)) b18
      show Code.wp _ _ _ _ _
      refine wp_seq ?_
      refine wp_seq ?_
      refine sn40 HCC.out (by kernel_rfl) T18 s18 w18 (HT.out _ B18.out) p20 ?_
      intro T19 w19 s19 b19 f19 z19
      have B19 : Hid (Below w.heap.size w w19) := B18.out.trans (b19.mono B18.out.size)
      have p6 := p6.next (f19 6 (by decide)) b19
      have p7 := p7.next (f19 7 (by decide)) b19
      have p8 := p8.next (f19 8 (by decide)) b19
      have p9 := p9.next (f19 9 (by decide)) b19
      have p10 := p10.next (f19 10 (by decide)) b19
      have p11 := p11.next (f19 11 (by decide)) b19
      have p12 := p12.next (f19 12 (by decide)) b19
      show Code.wp _ _ _ _ _
      refine wp_cond_false (evT z19) (wp_skip ?_)
      show Code.wp _ _ _ _ _
      refine wp_seq ?_
      refine sn42 (by kernel_rfl) T19 s19 w19 p10 ?_
      intro T20 w20 s20 b20 f20 q42 r42
      show Code.wp _ _ _ _ _
      refine wp_seq ?_
      refine sn43 (by kernel_rfl) T20 s20 w19 w20 b20 q42 r42 ?_
      intro T21 w21 s21 b21 f21 p21
      have B21 : Hid (Below w.heap.size w w21) := B19.out.trans (b21.mono B19.out.size)
      have p6 := p6.next ((f21 6 (by decide)).trans (f20 6 (by decide))) b21
      have p7 := p7.next ((f21 7 (by decide)).trans (f20 7 (by decide))) b21
      have p8 := p8.next ((f21 8 (by decide)).trans (f20 8 (by decide))) b21
      have p9 := p9.next ((f21 9 (by decide)).trans (f20 9 (by decide))) b21
      have p10 := p10.next ((f21 10 (by decide)).trans (f20 10 (by decide))) b21
      have p11 := p11.next ((f21 11 (by decide)).trans (f20 11 (by decide))) b21
      have p12 := p12.next ((f21 12 (by decide)).trans (f20 12 (by decide))) b21
      show Code.wp _ _ _ _ _
      refine wp_seq ?_
      refine sn44 HCC.out (by kernel_rfl) T21 s21 w21 (HT.out _ B21.out) p6 p9 ?_
      intro T22 w22 s22 b22 f22 p22
      have B22 : Hid (Below w.heap.size w w22) := B21.out.trans (b22.mono B21.out.size)
      have p6 := p6.next (f22 6 (by decide)) b22
      have p7 := p7.next (f22 7 (by decide)) b22
      have p8 := p8.next (f22 8 (by decide)) b22
      have p9 := p9.next (f22 9 (by decide)) b22
      have p10 := p10.next (f22 10 (by decide)) b22
      have p11 := p11.next (f22 11 (by decide)) b22
      have p12 := p12.next (f22 12 (by decide)) b22
      have p21 := p21.next (f22 21 (by decide)) b22
      show Code.wp _ _ _ _ _
      refine wp_seq ?_
      refine wp_seq ?_
      refine sn45 HCC.out (by kernel_rfl) T22 s22 w22 (HT.out _ B22.out) p6 p9 p10 p21 p22 ?_
      intro T23 w23 s23 b23 f23 z23
      have B23 : Hid (Below w.heap.size w w23) := B22.out.trans (b23.mono B22.out.size)
      have p6 := p6.next (f23 6 (by decide)) b23
      have p7 := p7.next (f23 7 (by decide)) b23
      have p8 := p8.next (f23 8 (by decide)) b23
      have p9 := p9.next (f23 9 (by decide)) b23
      have p11 := p11.next (f23 11 (by decide)) b23
      have p12 := p12.next (f23 12 (by decide)) b23
      show Code.wp _ _ _ _ _
      refine wp_cond_false (evT z23) (wp_skip ?_)
      show Code.wp _ _ _ _ _
      refine wp_seq ?_
      refine sn47 HCC.out (by kernel_rfl) T23 s23 w23 (HT.out _ B23.out) p6 p9 ?_
      intro T24 w24 s24 b24 f24 p23
      have B24 : Hid (Below w.heap.size w w24) := B23.out.trans (b24.mono B23.out.size)
      have p6 := p6.next (f24 6 (by decide)) b24
      have p7 := p7.next (f24 7 (by decide)) b24
      have p8 := p8.next (f24 8 (by decide)) b24
      have p11 := p11.next (f24 11 (by decide)) b24
      have p12 := p12.next (f24 12 (by decide)) b24
      show Code.wp _ _ _ _ _
      refine wp_seq ?_
      refine wp_seq ?_
      refine sn48 HCC.out (by kernel_rfl) T24 s24 w24 (HT.out _ B24.out) p6 p23 ?_
      intro T25 w25 s25 b25 f25 z25
      have B25 : Hid (Below w.heap.size w w25) := B24.out.trans (b25.mono B24.out.size)
      have p6 := p6.next (f25 6 (by decide)) b25
      have p7 := p7.next (f25 7 (by decide)) b25
      have p8 := p8.next (f25 8 (by decide)) b25
      have p11 := p11.next (f25 11 (by decide)) b25
      have p12 := p12.next (f25 12 (by decide)) b25
      show Code.wp _ _ _ _ _
      refine wp_cond_false (evT z25) (wp_skip ?_)
      show Code.wp _ _ _ _ _
      refine wp_seq ?_
      refine sn50 HCC.out (by kernel_rfl) T25 s25 w25 (HT.out _ B25.out) p6 p7 p8 p11 p12 ?_
      intro T26 w26 s26 b26 f26 p24
      have B26 : Hid (Below w.heap.size w w26) := B25.out.trans (b26.mono B25.out.size)
      show Code.wp _ _ _ _ _
      refine wp_seq ?_
      refine sn51 HCC.out (by kernel_rfl) T26 s26 w26 (HT.out _ B26.out) p24 ?_
      intro T27 w27 s27 b27 f27 z27
      show Code.wp _ _ _ _ _
      refine wp_ret ?_
      refine bodyPost_ret (results_tmp rfl _ _ _) rfl ⟨?_, B26.out.trans (b27.mono B26.out.size)⟩
      rw [← evT z27]
      simp [Act.eval]
end Go.Proofs.YtjennlkindbpoaaDoor
