/-
  CONTRACTS OF PACKAGE shape: outdated; what a step is handed and leaves; many cells at once. Conditions: as they stand.
-/
import Derived.Test.YteigglhhnemngaaGreatDoorSm
namespace Go.Proofs.YteigglhhnemngaaGreatDoor
set_option maxRecDepth 100000
open Go.RowKit Go.Deep
set_option linter.unusedVariables false
def outP (p : PS) (o : Option PS) : PS := o.getD p
def StepPost (w : World) (g : Nat) (T V S : Int) (p : PS) (o : Option PS) (e : Ending) (w' : World) : Prop := e = .returned (.bool o.isSome) ∧ UpdC w g T V S (outP p o) w'
theorem StepPost.no {w w' : World} {g : Nat} {T V S : Int} {p : PS} {o : Option PS} (h : o = none) {e : Ending} (he : e = .returned (.bool false)) (hU : UpdC w g T V S p w') : StepPost w g T V S p o e w' := by
  subst h he
  exact ⟨rfl, hU⟩
theorem StepPost.yes {w w' : World} {g : Nat} {T V S : Int} {p p' : PS} {o : Option PS} (h : o = some p') {e : Ending} (he : e = .returned (.bool true)) (hU : UpdC w g T V S p' w') : StepPost w g T V S p o e w' := by
  subst h he
  exact ⟨rfl, hU⟩
structure OkP (p : PS) : Prop where
  wh : ∀ t, 0 ≤ p.wh t ∧ p.wh t ≤ 10
  com : ∀ t, 0 ≤ p.com t ∧ p.com t ≤ p.came
  rv : ∀ t, 0 ≤ p.rv t ∧ p.rv t ≤ 1099511627776
  pos : ∀ t, 0 ≤ p.pos t ∧ p.pos t < 32
  last : ∀ t, -1 ≤ p.last t ∧ p.last t ≤ 31
  came : 0 ≤ p.came ∧ p.came ≤ 1048576
structure StepIn (w : World) (g : Nat) (T V S : Int) (p : PS) (t s : Nat) (e : Ev) : Prop where
  at' : ChkAt w g T V S p
  ok : OkP p
  ht : t < 6
  hs : s < 32
  th : e.th = t
  pl : 0 ≤ e.pl ∧ e.pl < 32
  v : 0 ≤ e.v ∧ e.v ≤ 1099511627776
section
variable {w w' : World} {g : Nat} {T V S : Int} {p : PS} {t : Nat}
theorem setCells_row (g : Nat) (ty : TypeId) (n : Nat) : ∀ (vs : List Value) (i : Nat) (c c' : Nat → Value) (w : World), w.heap[g]? = some (.cells (rowV n c) ty (0, 0)) → i + vs.length ≤ n → (∀ j v, vs[j]? = some v → c' (i + j) = v) → (∀ j, j < n → (j < i ∨ i + vs.length ≤ j) → c' j = c j) →
    (w.setCells g i vs).heap[g]? = some (.cells (rowV n c') ty (0, 0)) ∧ (∀ b, b ≠ g → (w.setCells g i vs).heap[b]? = w.heap[b]?) ∧ (w.setCells g i vs).heap.size = w.heap.size ∧ ∀ B, B ≤ g → Below B w (w.setCells g i vs)
  | [], i, c, c', w, h, hn, h1, h2 => by
    refine ⟨?_, fun b _ => rfl, rfl, fun B _ => Below.refl _ _⟩
    rw [World.setCells, h, rowV_congr (fun j hj => (h2 j hj (by simp; omega)).symm)]
  | v :: r, i, c, c', w, h, hn, h1, h2 => by
    rw [World.setCells]
    have hn' : i + (r.length + 1) ≤ n := by simpa using hn
    have e1 : (w.setCell ⟨g, i, none⟩ v).heap[g]? = some (.cells (rowV n (fun j => if j = i then v else c j)) ty (0, 0)) := by
      rw [hset_same _ _ _ _ _ _ h, rowV_set (c' := fun j => if j = i then v else c j) (by omega) v (by simp) (fun j _ hj => by simp [hj])]
    obtain ⟨a1, a2, a3, a4⟩ := setCells_row g ty n r (i + 1) _ c' _ e1 (by omega) (fun j u hu => by
      have := h1 (j + 1) u (by simpa using hu)
      rwa [show i + 1 + j = i + (j + 1) by omega]) (fun j hj hr => by
      by_cases hji : j = i
      · subst hji
        have := h1 0 v rfl
        simpa using this
      · rw [if_neg hji]
        exact h2 j hj (by simp; omega))
    refine ⟨a1, fun b hb => (a2 b hb).trans (hset_other _ _ _ _ _ hb), a3.trans (by simp), fun B hB => ((Below.refl B w).setCell (p := ⟨g, i, none⟩) hB _).trans (a4 B hB)⟩
theorem UpdC.setCells (h : UpdC w g T V S p w') {i : Nat} {vs : List Value} (hn : i + vs.length ≤ 495) {p' : PS} (h1 : ∀ j v, vs[j]? = some v → cellP T V S p' (i + j) = v) (h2 : ∀ j, j < 495 → (j < i ∨ i + vs.length ≤ j) → cellP T V S p' j = cellP T V S p j) : UpdC w g T V S p' (w'.setCells g i vs) := by
  obtain ⟨a1, a2, a3, a4⟩ := setCells_row g _ 495 vs i _ (cellP T V S p') w' h.at' hn h1 h2
  exact ⟨a1, fun b hb hb2 => (a2 b hb2).trans (h.far b hb hb2), by rw [a3]; exact h.size, fun B hB => (h.low B hB).trans (a4 B hB)⟩
theorem ChkAt.there (h : ChkAt w g T V S p) {i n : Nat} (hn : i + n ≤ 495) : w.there g i n := fun j hj => by
  rw [h.cell (by omega)]
  exact ⟨rfl, h.fr _⟩
set_option maxHeartbeats 4000000 in
theorem outdated_any (h : ChkAt w g T V S p) (ht : t < 6) {s : Nat} (hs : s < 32) (who : Int) : Calls Tryz.prog 161 #[.pointer (some ⟨g, 0, none⟩), .pointer (some ⟨g, 69 + t * 71, none⟩), .int .i64 (s : Int), .int .i64 who] w fun e w' => e = .returned (.bool (oldP p t s who)) ∧ Below w.heap.size w w' := by
  have c0 := h.own hs
  have c1 := h.ver hs
  have c2 := h.rv ht
  have hg := h.lt
  have HA : Hid (∀ w1, _) := fun w1 => anothers_any (p.own s) (p.ver s) who w1
  unfold oldP othersP
  obtain ⟨b, hb⟩ : ∃ b, b = (decide (p.own s ≠ -1) && decide (p.own s ≠ who)) := ⟨_, rfl⟩
  obtain ⟨r, hr⟩ : ∃ r, r = decide (p.rv t < p.ver s) := ⟨_, rfl⟩
  rw [← hb] at HA ⊢
  rw [← hr]
  generalize p.own s = x0 at *
  generalize p.ver s = x1 at *
  generalize p.rv t = x2 at *
  obtain ⟨o, ho⟩ : ∃ o, o = 69 + t * 71 := ⟨_, rfl⟩
  rw [← ho] at c2 ⊢
  clear h ho hb
  have HD : Hid (∀ w1, Below w.heap.size w w1 → w1.cell? ⟨g, 5 + s * 2, none⟩ = some (.int .i64 x0) ∧ w1.cell? ⟨g, 5 + s * 2 + 1, none⟩ = some (.int .i64 x1) ∧ w1.cell? ⟨g, o + 2, none⟩ = some (.int .i64 x2)) := fun w1 hb => ⟨(hb.cell (p := ⟨g, _, none⟩) hg).trans c0, (hb.cell (p := ⟨g, _, none⟩) hg).trans c1, (hb.cell (p := ⟨g, _, none⟩) hg).trans c2⟩
  cases b with
  | true =>
    rw [Bool.true_or]
    go_enter Tryz.func161, Tryz.ntmps161
    go_wp2_with fail
    refine rgOutT rfl _ (by simp) w g s o hs x0 x1 x2 who HD.out HA rfl rfl rfl rfl ?_
    intro w5 h5
    simp only [putAll, List.setIfInBounds_toArray, List.set_cons_succ, List.set_cons_zero]
    go_wp2_with fail
    go_ret
    exact ⟨rfl, h5⟩
  | false =>
    rw [Bool.false_or]
    go_enter Tryz.func161, Tryz.ntmps161
    go_wp2_with fail
    refine rgOutF rfl _ (by simp) w g s o hs x0 x1 x2 who r hr.symm HD.out HA rfl rfl rfl rfl ?_
    intro w5 h5
    simp only [putAll, List.setIfInBounds_toArray, List.set_cons_succ, List.set_cons_zero]
    go_wp2_with fail
    go_ret
    exact ⟨rfl, h5⟩
end
end Go.Proofs.YteigglhhnemngaaGreatDoor
