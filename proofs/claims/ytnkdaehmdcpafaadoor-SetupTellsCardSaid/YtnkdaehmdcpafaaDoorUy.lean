/-
  THE TWO ANSWERS OF May AGREE (layer 5), PLAIN: the program's, by what stands where, and the document's own, block by block; of trees that stand in no more rows than are asked. No condition.
-/
import Derived.Test.YtnkdaehmdcpafaaDoorQm
import Derived.Test.YtnkdaehmdcpafaaDoorUm
namespace Go.Proofs.YtnkdaehmdcpafaaDoor
open Go.RowKit
set_option linter.unusedVariables false
def FitE : Nat → Ex → Prop
  | 0, _ => False
  | d + 1, .node _ _ args => ∀ e ∈ args, FitE d e
def FitS : Nat → St → Prop
  | 0, _ => False
  | d + 1, .node _ _ a b y e => FitE d a ∧ FitE d b ∧ (∀ s ∈ y, FitS d s) ∧ (∀ s ∈ e, FitS d s)
theorem At.fitE {w : World} {lo hi : Nat} : ∀ (d : Nat) {v : Value} {e : Ex}, At w lo hi d v e → FitE d e := by
  intro d
  induction d with
  | zero => intro v e h; exact h.elim
  | succ d ih =>
    intro v e h
    obtain ⟨op, n, args⟩ := e
    obtain ⟨h1, h2, h3, h4, A, c, rfl, hc⟩ := h
    intro e he
    obtain ⟨k, hk, rfl⟩ := List.getElem_of_mem he
    obtain ⟨a, x, y, z, rfl, b1, b2, c1, c2, c3, hr⟩ := hc k hk
    exact ih hr
theorem SAt.fitS {w : World} {lo hi : Nat} : ∀ (d : Nat) {r : Raw} {s : St}, SAt w lo hi d r s → FitS d s := by
  intro d
  induction d with
  | zero => intro r s h; exact h.elim
  | succ d ih =>
    intro r s h
    obtain ⟨k, t, a, b, y, e⟩ := s
    obtain ⟨h1, h2, ha, hb, hy, he⟩ := h
    refine ⟨ha.fitE d, hb.fitE d, fun s hs => ?_, fun s hs => ?_⟩
    · obtain ⟨j, hj, rfl⟩ := List.getElem_of_mem hs
      obtain ⟨p, q, _, _, _, _, h⟩ := hy j hj
      exact ih h
    · obtain ⟨j, hj, rfl⟩ := List.getElem_of_mem hs
      obtain ⟨p, q, _, _, _, _, h⟩ := he j hj
      exact ih h
theorem map_sum_congr {α : Type} (f g : α → Nat) : ∀ (l : List α), (∀ x ∈ l, f x = g x) → (l.map f).sum = (l.map g).sum := by
  intro l
  induction l with
  | nil => intro _; rfl
  | cons x r ih => intro h; simp only [List.map_cons, List.sum_cons]; rw [h x (List.mem_cons_self ..), ih fun y hy => h y (List.mem_cons_of_mem _ hy)]
theorem all_congr6 {α : Type} (f g : α → Bool) : ∀ (l : List α), (∀ x ∈ l, f x = g x) → l.all f = l.all g := by
  intro l
  induction l with
  | nil => intro _; rfl
  | cons x r ih => intro h; simp only [List.all_cons]; rw [h x (List.mem_cons_self ..), ih fun y hy => h y (List.mem_cons_of_mem _ hy)]
theorem cnt_fit : ∀ (d D : Nat) (e : Ex), FitE d e → d ≤ D → cnt D e = cnt d e := by
  intro d
  induction d with
  | zero => intro D e h; exact h.elim
  | succ d ih =>
    intro D e h hd
    obtain ⟨D, rfl⟩ : ∃ q, D = q + 1 := ⟨D - 1, by omega⟩
    obtain ⟨op, n, args⟩ := e
    rw [cnt, cnt, map_sum_congr _ _ args fun e he => ih D e (h e he) (by omega)]
theorem belowF_fit (m : Int) : ∀ (d D : Nat) (e : Ex), FitE d e → d ≤ D → belowF D e m = belowF d e m := by
  intro d
  induction d with
  | zero => intro D e h; exact h.elim
  | succ d ih =>
    intro D e h hd
    obtain ⟨D, rfl⟩ : ∃ q, D = q + 1 := ⟨D - 1, by omega⟩
    obtain ⟨op, n, args⟩ := e
    rw [belowF, belowF, all_congr6 _ _ args fun e he => ih D e (h e he) (by omega)]
theorem flat_len : ∀ (d deep : Nat) (s : St), (flatS d deep s).length = numS d s := by
  intro d
  induction d with
  | zero => intro deep s; rfl
  | succ d ih =>
    intro deep s
    obtain ⟨k, t, a, b, y, e⟩ := s
    rw [flatS, numS, List.length_cons, List.length_append, List.length_flatMap, List.length_flatMap, map_sum_congr _ (numS d) y fun s _ => ih _ s, map_sum_congr _ (numS d) e fun s _ => ih _ s]
    omega
theorem nodesL_append (D : Nat) (l m : List (Nat × St)) : nodesL D (l ++ m) = nodesL D l + nodesL D m := by simp [nodesL]
theorem nodesL_flatMap (D : Nat) (f : St → List (Nat × St)) : ∀ l : List St, nodesL D (l.flatMap f) = (l.map fun s => nodesL D (f s)).sum := by
  intro l
  induction l with
  | nil => rfl
  | cons x r ih => rw [List.flatMap_cons, nodesL_append, ih, List.map_cons, List.sum_cons]
theorem flat_nodes (D : Nat) : ∀ (d deep : Nat) (s : St), FitS d s → d ≤ D → nodesL D (flatS d deep s) = nodS d s := by
  intro d
  induction d with
  | zero => intro deep s h; exact h.elim
  | succ d ih =>
    intro deep s h hd
    obtain ⟨k, t, a, b, y, e⟩ := s
    obtain ⟨ha, hb, hy, he⟩ := h
    have e1 : cntE D a = cntE d a := by unfold cntE; rw [cnt_fit d D a ha (by omega)]
    have e2 : cntE D b = cntE d b := by unfold cntE; rw [cnt_fit d D b hb (by omega)]
    have e3 : nodesL D ((deep, St.node k t a b y e) :: (y.flatMap (flatS d (deep + 1)) ++ e.flatMap (flatS d (deep + 1)))) = (cntE D a + cntE D b) + nodesL D (y.flatMap (flatS d (deep + 1)) ++ e.flatMap (flatS d (deep + 1))) := by
      simp [nodesL, nodesOf, St.a, St.b]
    rw [flatS, nodS, e3, nodesL_append, nodesL_flatMap, nodesL_flatMap, map_sum_congr _ (nodS d) y fun s hs => ih _ s (hy s hs) (by omega), map_sum_congr _ (nodS d) e fun s hs => ih _ s (he s hs) (by omega), e1, e2]
    omega
theorem none_not_whole {m : Nat} {e : Ex} (h : noneE e = true) : wholeF (m + 1) e = false := by
  obtain ⟨op, n, args⟩ := e
  unfold noneE at h
  rw [Bool.and_eq_true] at h
  have h0 : op = 0 := of_decide_eq_true h.1
  subst h0
  simp [wholeF]
theorem ask_one (q : Bool) (D d : Nat) (e : Ex) (n : Int) (he : FitE d e) (hd : d ≤ D) : (((!noneE e) == q) && mayE D e n) = (if q then mayX d e n else noneE e) := by
  unfold mayE mayX
  rw [belowF_fit n d D e he hd]
  cases hn : noneE e with
  | true => rw [none_not_whole (m := 5) hn]; cases q <;> rfl
  | false => cases q <;> simp
theorem shpQ_all (q : Asks) (t : Int) (yl el : Nat) (ba bb ry re : Bool) : shpQ q t yl el ba bb ry re = (shpQ q t yl el ba bb true true && (ry && re)) := by
  unfold shpQ
  cases decide (0 ≤ t) <;> cases decide (t ≤ 7) <;> cases (q.to || decide (t ≤ 0)) <;> cases (q.body || decide (yl = 0)) <;> cases (q.els || decide (el = 0)) <;> cases ba <;> cases bb <;> simp
theorem shaped_eq (D d : Nat) (k : Nat) (t : Int) (a b : Ex) (y e : List St) (n : Int) (ha : FitE d a) (hb : FitE d b) (hd : d ≤ D) :
    shapedF D (.node k t a b y e) n = (if k < 1 ∨ 8 < k then false else shpQ (ask k) t y.length e.length (if (ask k).a then mayX d a n else noneE a) (if (ask k).b then mayX d b n else noneE b) true true) := by
  unfold shapedF
  show (if k < 1 ∨ 8 < k then false else _) = _
  split
  · rfl
  · rw [← ask_one (ask k).a D d a n ha hd, ← ask_one (ask k).b D d b n hb hd]
    have hs : hasF (ask k) (.node k t a b y e) = ((((ask k).to || t != 0) == (ask k).to) && (((!noneE a) == (ask k).a) && (((!noneE b) == (ask k).b) && ((((ask k).body || decide (0 < y.length)) == (ask k).body) && (((ask k).els || decide (0 < e.length)) == (ask k).els))))) := rfl
    show (hasF (ask k) (.node k t a b y e) && (decide (0 ≤ t) && (decide (t < 8) && (mayE D a n && mayE D b n)))) = _
    rw [hs]
    unfold shpQ
    have t1 : decide (t < 8) = decide (t ≤ 7) := decide_eq_decide.2 (by omega)
    have y1 : ∀ q : Bool, ((q || decide (0 < y.length)) == q) = (q || decide (y.length = 0)) := fun q => by
      cases q
      · by_cases h : y.length = 0
        · rw [decide_eq_true h, decide_eq_false (by omega)]; rfl
        · rw [decide_eq_false h, decide_eq_true (by omega)]; rfl
      · rfl
    have e1 : ∀ q : Bool, ((q || decide (0 < e.length)) == q) = (q || decide (e.length = 0)) := fun q => by
      cases q
      · by_cases h : e.length = 0
        · rw [decide_eq_true h, decide_eq_false (by omega)]; rfl
        · rw [decide_eq_false h, decide_eq_true (by omega)]; rfl
      · rfl
    rw [t1, y1, e1]
    by_cases h0 : 0 ≤ t
    · have tt : ∀ q : Bool, ((q || t != 0) == q) = (q || decide (t ≤ 0)) := fun q => by
        cases q
        · by_cases h : t = 0
          · subst h; rfl
          · have : (t != 0) = true := bne_iff_ne.2 h
            rw [this, decide_eq_false (by omega)]; rfl
        · rfl
      rw [tt]
      cases decide (0 ≤ t) <;> cases decide (t ≤ 7) <;> cases ((ask k).to || decide (t ≤ 0)) <;> cases ((ask k).body || decide (y.length = 0)) <;> cases ((ask k).els || decide (e.length = 0)) <;> cases ((!noneE a) == (ask k).a) <;> cases ((!noneE b) == (ask k).b) <;> cases mayE D a n <;> cases mayE D b n <;> rfl
    · rw [decide_eq_false h0]
      simp
theorem maxOf_all (f : St → Nat) (c : Nat) : ∀ l : List St, (∀ s ∈ l, f s ≤ c) ↔ maxOf f l ≤ c := by
  intro l
  constructor
  · exact maxOf_le f c l
  · intro h s hs
    have key : ∀ (l : List St) (m : Nat), m ≤ l.foldl (fun m s => max m (f s)) m ∧ ∀ s ∈ l, f s ≤ l.foldl (fun m s => max m (f s)) m := by
      intro l
      induction l with
      | nil => intro m; exact ⟨Nat.le_refl _, fun s hs => by cases hs⟩
      | cons x r ih =>
        intro m
        obtain ⟨h1, h2⟩ := ih (max m (f x))
        refine ⟨Nat.le_trans (Nat.le_max_left _ _) h1, fun s hs => ?_⟩
        rcases List.mem_cons.1 hs with rfl | hs
        · exact Nat.le_trans (Nat.le_max_right _ _) h1
        · exact h2 s hs
    exact Nat.le_trans ((key l 0).2 s hs) h
theorem blk_all (f : St → Nat) (deep : Nat) (l : List St) (hd : deep ≤ 6) : (∀ s ∈ l, deep + 1 + f s ≤ 6) ↔ deep + blkD f l ≤ 6 := by
  unfold blkD
  by_cases h : l.length = 0
  · rw [if_pos h]
    obtain rfl := List.eq_nil_of_length_eq_zero h
    simp
    exact hd
  · rw [if_neg h]
    obtain ⟨x, hx⟩ : ∃ x, x ∈ l := ⟨l[0]'(by omega), List.getElem_mem _⟩
    constructor
    · intro hh
      have h6 := hh x hx
      have := (maxOf_all f (5 - deep) l).1 fun s hs => by have := hh s hs; omega
      omega
    · intro hh s hs
      have := (maxOf_all f (5 - deep) l).2 (by omega) s hs
      omega
theorem flat_all (D : Nat) (n : Int) : ∀ (d deep : Nat) (s : St), FitS d s → d ≤ D → (flatS d deep s).all (okEach D n) = (decide (deep + depS d s ≤ 6) && shpS d n s) := by
  intro d
  induction d with
  | zero => intro deep s h; exact h.elim
  | succ d ih =>
    intro deep s h hd
    obtain ⟨k, t, a, b, y, e⟩ := s
    obtain ⟨ha, hb, hy, he⟩ := h
    rw [flatS, List.all_cons, List.all_append, List.all_flatMap, List.all_flatMap, all_congr6 _ _ y fun s hs => ih (deep + 1) s (hy s hs) (by omega), all_congr6 _ _ e fun s hs => ih (deep + 1) s (he s hs) (by omega)]
    have e1 : okEach D n (deep, .node k t a b y e) = (decide (deep ≤ 6) && shapedF D (.node k t a b y e) n) := rfl
    rw [e1, shaped_eq D d k t a b y e n ha hb (by omega), depS, shpS]
    by_cases hk : k < 1 ∨ 8 < k
    · rw [if_pos hk, if_pos hk]
      simp
    · rw [if_neg hk, if_neg hk, shpQ_all (ask k) t y.length e.length _ _ (y.all (shpS d n)) (e.all (shpS d n))]
      obtain ⟨Q, hQ⟩ : ∃ Q, Q = shpQ (ask k) t y.length e.length (if (ask k).a then mayX d a n else noneE a) (if (ask k).b then mayX d b n else noneE b) true true := ⟨_, rfl⟩
      rw [← hQ]
      by_cases h6 : deep ≤ 6
      · have b1 := blk_all (depS d) deep y h6
        have b2 := blk_all (depS d) deep e h6
        apply Bool.eq_iff_iff.2
        simp only [Bool.and_eq_true, decide_eq_true_eq, List.all_eq_true]
        constructor
        · rintro ⟨⟨_, h2⟩, h3, h4⟩
          have c1 := b1.1 fun s hs => (h3 s hs).1
          have c2 := b2.1 fun s hs => (h4 s hs).1
          exact ⟨by omega, h2, fun s hs => (h3 s hs).2, fun s hs => (h4 s hs).2⟩
        · rintro ⟨h1, h2, h3, h4⟩
          have c1 := b1.2 (by omega)
          have c2 := b2.2 (by omega)
          exact ⟨⟨h6, h2⟩, fun s hs => ⟨c1 s hs, h3 s hs⟩, fun s hs => ⟨c2 s hs, h4 s hs⟩⟩
      · rw [decide_eq_false h6, decide_eq_false (by omega)]
        rfl
/-- The two answers are the same. -/
theorem may_agree (d : Nat) (tx : List St) (n : Int) (h : ∀ s ∈ tx, FitS d s) : rmayF d tx n = mayF d tx n := by
  unfold rmayF mayF soundF flat
  rw [List.length_flatMap, map_sum_congr _ (numS d) tx fun s _ => flat_len d 1 s, nodesL_flatMap, map_sum_congr _ (nodS d) tx fun s hs => flat_nodes d d 1 s (h s hs) (Nat.le_refl _), List.all_flatMap, all_congr6 _ _ tx fun s hs => flat_all d n d 1 s (h s hs) (Nat.le_refl _)]
  have e1 : (tx.all fun s => decide (1 + depS d s ≤ 6) && shpS d n s) = (decide (maxOf (depS d) tx + 1 ≤ 6) && tx.all (shpS d n)) := by
    have b1 := maxOf_all (depS d) 5 tx
    apply Bool.eq_iff_iff.2
    simp only [Bool.and_eq_true, decide_eq_true_eq, List.all_eq_true]
    constructor
    · intro hh
      have := b1.1 fun s hs => by have := (hh s hs).1; omega
      exact ⟨by omega, fun s hs => (hh s hs).2⟩
    · rintro ⟨h1, h2⟩ s hs
      have := b1.2 (by omega) s hs
      exact ⟨by omega, h2 s hs⟩
  have e2 : decide (n ≤ 5) = decide (n < 6) := decide_eq_decide.2 (by omega)
  rw [e1, e2]
  cases decide (0 ≤ n) <;> cases decide (n < 6) <;> cases decide ((tx.map (numS d)).sum ≤ 40) <;> cases decide ((tx.map (nodS d)).sum ≤ 300) <;> cases decide (maxOf (depS d) tx + 1 ≤ 6) <;> cases decide (costL (costF d) tx 0 ≤ 2000) <;> cases tx.all (shpS d n) <;> rfl
end Go.Proofs.YtnkdaehmdcpafaaDoor
