/-
  WHAT THE STATEMENTS OF LAYER 6 GO OVER, PLAIN: how many parts a setup has; what is not too large stands in few rows, and has few parts. No condition.
-/
import Derived.Test.YtnkdaehmdcpafaaDoorUm
import Derived.Test.YtnkdaehmdcpafaaDoorCp
import Derived.Test.YtnkdaehmdcpafaaDoorQn
namespace Go.Proofs.YtnkdaehmdcpafaaDoor
open Go.RowKit
set_option linter.unusedVariables false
def sideL (f : Ex → Option Nat) : List Ex → Nat → Option Nat
  | [], n => some n
  | e :: r, n => match f e with
    | none => none
    | some k => if 1000 < n + k then none else sideL f r (n + k)
def sideF : Nat → Ex → Nat → Option Nat
  | 0, _, _ => none
  | d + 1, .node _ _ args, deep => if 20 < deep ∨ 10 < args.length then none else sideL (fun e => sideF d e (deep + 1)) args 1
def opt4 (a b c d : Option Nat) : Option Nat := if a.isNone ∨ b.isNone ∨ c.isNone ∨ d.isNone then none else some (1 + a.getD 0 + b.getD 0 + c.getD 0 + d.getD 0)
def partL (f : St → Option Nat) : List St → Nat → Option Nat
  | [], n => some n
  | s :: r, n => match f s with
    | none => none
    | some k => if 3000 < n + k then none else partL f r (n + k)
def partB (f : Nat → St → Option Nat) (deep : Nat) (l : List St) : Option Nat := if 20 < deep ∨ 500 < l.length then none else partL (f deep) l 0
def partF : Nat → Nat → St → Option Nat
  | 0, _, _ => none
  | d + 1, deep, .node _ _ a b y e => opt4 (sideF d a 0) (sideF d b 0) (partB (partF d) (deep + 1) y) (partB (partF d) (deep + 1) e)
def bigX (d : Nat) : List (List St) → Nat → Option Nat
  | [], n => some n
  | x :: r, n => match partB (partF d) 0 x with
    | none => none
    | some m => if 4000 < n + m then none else bigX d r (n + m)
def bigT (d : Nat) : List (List (List St)) → Nat → Option Nat
  | [], n => some n
  | l :: r, n => if 20 < l.length then none else match bigX d l n with
    | none => none
    | some m => bigT d r m
def largeF (d : Nat) (s : Su) : Bool := if 100 < s.init.length ∨ 20 < s.thr.length then true else (bigT d s.thr 0).isNone
theorem sideL_drop (f : Ex → Option Nat) (l : List Ex) (k n : Nat) (h : k < l.length) : sideL f (l.drop k) n = match f l[k] with
    | none => none
    | some j => if 1000 < n + j then none else sideL f (l.drop (k + 1)) (n + j) := by
  rw [List.drop_eq_getElem_cons h]
  rfl
theorem partL_drop (f : St → Option Nat) (l : List St) (k n : Nat) (h : k < l.length) : partL f (l.drop k) n = match f l[k] with
    | none => none
    | some j => if 3000 < n + j then none else partL f (l.drop (k + 1)) (n + j) := by
  rw [List.drop_eq_getElem_cons h]
  rfl
theorem sideL_sum (f : Ex → Option Nat) (g : Ex → Nat) : ∀ (l : List Ex) (n m : Nat), (∀ e ∈ l, ∀ k, f e = some k → g e ≤ k) → n ≤ 1000 → sideL f l n = some m → n + (l.map g).sum ≤ m ∧ m ≤ 1000 ∧ ∀ e ∈ l, ∃ k, f e = some k := by
  intro l
  induction l with
  | nil => intro n m _ hn h; simp [sideL] at h; subst h; simp; exact hn
  | cons e r ih =>
    intro n m hg hn h
    unfold sideL at h
    cases hf : f e with
    | none => rw [hf] at h; cases h
    | some k =>
      rw [hf] at h
      simp only at h
      by_cases hk : 1000 < n + k
      · rw [if_pos hk] at h; cases h
      · rw [if_neg hk] at h
        obtain ⟨h1, h2, h3⟩ := ih (n + k) m (fun x hx => hg x (List.mem_cons_of_mem _ hx)) (by omega) h
        have := hg e (List.mem_cons_self ..) k hf
        refine ⟨?_, h2, fun x hx => ?_⟩
        · rw [List.map_cons, List.sum_cons]
          omega
        · rcases List.mem_cons.1 hx with rfl | hx
          · exact ⟨k, hf⟩
          · exact h3 x hx
theorem partL_sum (f : St → Option Nat) (g : St → Nat) : ∀ (l : List St) (n m : Nat), (∀ e ∈ l, ∀ k, f e = some k → g e ≤ k) → n ≤ 3000 → partL f l n = some m → n + (l.map g).sum ≤ m ∧ m ≤ 3000 ∧ ∀ e ∈ l, ∃ k, f e = some k := by
  intro l
  induction l with
  | nil => intro n m _ hn h; simp [partL] at h; subst h; simp; exact hn
  | cons e r ih =>
    intro n m hg hn h
    unfold partL at h
    cases hf : f e with
    | none => rw [hf] at h; cases h
    | some k =>
      rw [hf] at h
      simp only at h
      by_cases hk : 3000 < n + k
      · rw [if_pos hk] at h; cases h
      · rw [if_neg hk] at h
        obtain ⟨h1, h2, h3⟩ := ih (n + k) m (fun x hx => hg x (List.mem_cons_of_mem _ hx)) (by omega) h
        have := hg e (List.mem_cons_self ..) k hf
        refine ⟨?_, h2, fun x hx => ?_⟩
        · rw [List.map_cons, List.sum_cons]
          omega
        · rcases List.mem_cons.1 hx with rfl | hx
          · exact ⟨k, hf⟩
          · exact h3 x hx
theorem sideF_cnt : ∀ (d : Nat) (e : Ex) (deep m : Nat), sideF d e deep = some m → m ≤ 1000 ∧ ∀ q, cnt q e ≤ m := by
  intro d
  induction d with
  | zero => intro e deep m h; cases h
  | succ d ih =>
    intro e deep m h
    obtain ⟨o, n, args⟩ := e
    unfold sideF at h
    by_cases hc : 20 < deep ∨ 10 < args.length
    · rw [if_pos hc] at h; cases h
    · rw [if_neg hc] at h
      refine ⟨(sideL_sum _ (fun _ => 0) args 1 m (fun e _ k _ => Nat.zero_le _) (by omega) h).2.1, fun q => ?_⟩
      cases q with
      | zero => exact Nat.zero_le _
      | succ q => exact (sideL_sum _ (cnt q) args 1 m (fun e _ k hk => (ih e (deep + 1) k hk).2 q) (by omega) h).1
theorem opt4_some {a b c d : Option Nat} {m : Nat} (h : opt4 a b c d = some m) : ∃ x y z u, a = some x ∧ b = some y ∧ c = some z ∧ d = some u ∧ m = 1 + x + y + z + u := by
  unfold opt4 at h
  cases a <;> cases b <;> cases c <;> cases d <;> simp_all
theorem partB_some {f : Nat → St → Option Nat} {deep m : Nat} {l : List St} (h : partB f deep l = some m) : deep ≤ 20 ∧ l.length ≤ 500 ∧ partL (f deep) l 0 = some m := by
  unfold partB at h
  split at h
  · cases h
  · exact ⟨by omega, by omega, h⟩
theorem cntE_le (q : Nat) (e : Ex) : cntE q e ≤ cnt q e := by unfold cntE; split <;> omega
theorem partF_num : ∀ (d deep : Nat) (s : St) (m : Nat), partF d deep s = some m → ∀ q, numS q s + nodS q s ≤ m ∧ Sm q s := by
  intro d
  induction d with
  | zero => intro deep s m h; cases h
  | succ d ih =>
    intro deep s m h q
    obtain ⟨k, t, a, b, y, e⟩ := s
    cases q with
    | zero => exact ⟨Nat.zero_le _, trivial⟩
    | succ q =>
      obtain ⟨x1, x2, x3, x4, h1, h2, h3, h4, rfl⟩ := opt4_some h
      obtain ⟨l1, c1⟩ := sideF_cnt _ _ _ _ h1
      obtain ⟨l2, c2⟩ := sideF_cnt _ _ _ _ h2
      obtain ⟨_, n3, p3⟩ := partB_some h3
      obtain ⟨_, n4, p4⟩ := partB_some h4
      have s3 := partL_sum _ (fun s => numS q s + nodS q s) y 0 x3 (fun s _ k hk => (ih _ s k hk q).1) (by omega) p3
      have s4 := partL_sum _ (fun s => numS q s + nodS q s) e 0 x4 (fun s _ k hk => (ih _ s k hk q).1) (by omega) p4
      have hsum : ∀ l : List St, (l.map fun s => numS q s + nodS q s).sum = (l.map (numS q)).sum + (l.map (nodS q)).sum := fun l => by
        induction l with
        | nil => rfl
        | cons s r ih => simp only [List.map_cons, List.sum_cons, ih]; omega
      rw [hsum] at s3 s4
      have e1 := cntE_le q a
      have e2 := cntE_le q b
      have := c1 q
      have := c2 q
      refine ⟨?_, by omega, by omega, by omega, by omega, fun s hs => ?_, fun s hs => ?_⟩
      · rw [numS, nodS]
        omega
      · obtain ⟨k, hk⟩ := s3.2.2 s hs
        exact (ih _ s k hk q).2
      · obtain ⟨k, hk⟩ := s4.2.2 s hs
        exact (ih _ s k hk q).2
/-- A tree that is not too deep stands in few rows. -/
theorem At.fit {w : World} {lo hi : Nat} : ∀ (d : Nat) {v : Value} {e : Ex} {deep m q : Nat}, At w lo hi d v e → sideF d e deep = some m → deep + q = 21 → At w lo hi q v e := by
  intro d
  induction d with
  | zero => intro v e deep m q h; exact h.elim
  | succ d ih =>
    intro v e deep m q h hs hq
    obtain ⟨op, n, args⟩ := e
    obtain ⟨h1, h2, h3, h4, A, c, rfl, hc⟩ := h
    unfold sideF at hs
    by_cases hcc : 20 < deep ∨ 10 < args.length
    · rw [if_pos hcc] at hs; cases hs
    · rw [if_neg hcc] at hs
      obtain ⟨q, rfl⟩ : ∃ p, q = p + 1 := ⟨q - 1, by omega⟩
      have hall := (sideL_sum _ (fun _ => 0) args 1 m (fun e _ k _ => Nat.zero_le _) (by omega) hs).2.2
      refine ⟨h1, h2, h3, h4, A, c, rfl, fun k hk' => ?_⟩
      obtain ⟨a, x, y, z, rfl, b1, b2, c1, c2, c3, hr⟩ := hc k hk'
      obtain ⟨j, hj⟩ := hall args[k] (List.getElem_mem hk')
      exact ⟨a, x, y, z, rfl, b1, b2, c1, c2, c3, ih hr hj (by omega)⟩
theorem SAt.fit {w : World} {lo hi : Nat} : ∀ (d : Nat) {r : Raw} {s : St} {deep m q : Nat}, SAt w lo hi d r s → partF d deep s = some m → deep ≤ 20 → deep + q = 42 → SAt w lo hi q r s := by
  intro d
  induction d with
  | zero => intro r s deep m q h; exact h.elim
  | succ d ih =>
    intro r s deep m q h hs hd hq
    obtain ⟨k, t, a, b, y, e⟩ := s
    obtain ⟨h1, h2, ha, hb, hy, he⟩ := h
    obtain ⟨x1, x2, x3, x4, g1, g2, g3, g4, rfl⟩ := opt4_some hs
    obtain ⟨d3, n3, p3⟩ := partB_some g3
    obtain ⟨d4, n4, p4⟩ := partB_some g4
    have s3 := (partL_sum _ (fun _ => 0) y 0 x3 (fun s _ k hk => Nat.zero_le _) (by omega) p3).2.2
    have s4 := (partL_sum _ (fun _ => 0) e 0 x4 (fun s _ k hk => Nat.zero_le _) (by omega) p4).2.2
    obtain ⟨q, rfl⟩ : ∃ p, q = p + 1 := ⟨q - 1, by omega⟩
    refine ⟨h1, h2, (ha.fit d g1 (q := 21) (by omega)).more _ _ (by omega), (hb.fit d g2 (q := 21) (by omega)).more _ _ (by omega), fun j hj => ?_, fun j hj => ?_⟩
    · obtain ⟨p, q, e1, m1, m2, t1, r1⟩ := hy j hj
      obtain ⟨i, hi⟩ := s3 y[j] (List.getElem_mem hj)
      exact ⟨p, q, e1, m1, m2, t1, ih r1 hi d3 (by omega)⟩
    · obtain ⟨p, q, e1, m1, m2, t1, r1⟩ := he j hj
      obtain ⟨i, hi⟩ := s4 e[j] (List.getElem_mem hj)
      exact ⟨p, q, e1, m1, m2, t1, ih r1 hi d4 (by omega)⟩
/-- What is known of a transaction that is not too large. -/
structure FewX (tx : List St) : Prop where
  len : tx.length ≤ 500
  sum : ∀ q, (tx.map (numS q)).sum + (tx.map (nodS q)).sum ≤ 3000
  sm : ∀ q, ∀ s ∈ tx, Sm q s
theorem fewX_of {d m : Nat} {tx : List St} (h : partB (partF d) 0 tx = some m) : FewX tx := by
  obtain ⟨_, n3, p3⟩ := partB_some h
  refine ⟨n3, fun q => ?_, fun q s hs => ?_⟩
  · have s3 := partL_sum _ (fun s => numS q s + nodS q s) tx 0 m (fun s _ k hk => (partF_num _ _ s k hk q).1) (by omega) p3
    have hsum : ∀ l : List St, (l.map fun s => numS q s + nodS q s).sum = (l.map (numS q)).sum + (l.map (nodS q)).sum := fun l => by
      induction l with
      | nil => rfl
      | cons s r ih => simp only [List.map_cons, List.sum_cons, ih]; omega
    rw [hsum] at s3
    omega
  · obtain ⟨k, hk⟩ := (partL_sum _ (fun _ => 0) tx 0 m (fun s _ k hk => Nat.zero_le _) (by omega) p3).2.2 s hs
    exact (partF_num _ _ s k hk q).2
theorem SKids.fit {w : World} {lo hi d m : Nat} {A : Option Addr} {tx : List St} (h : SKids w lo hi d A tx) (hp : partB (partF d) 0 tx = some m) : SKids w lo hi 42 A tx := fun j hj => by
  obtain ⟨_, n3, p3⟩ := partB_some hp
  obtain ⟨p, q, e1, m1, m2, t1, r1⟩ := h j hj
  obtain ⟨i, hi⟩ := (partL_sum _ (fun _ => 0) tx 0 m (fun s _ k hk => Nat.zero_le _) (by omega) p3).2.2 tx[j] (List.getElem_mem hj)
  exact ⟨p, q, e1, m1, m2, t1, r1.fit d hi (by omega) (by omega)⟩
theorem bigX_mem (d : Nat) : ∀ (l : List (List St)) (n m : Nat), bigX d l n = some m → ∀ x ∈ l, ∃ k, partB (partF d) 0 x = some k := by
  intro l
  induction l with
  | nil => intro n m _ x hx; cases hx
  | cons y r ih =>
    intro n m h x hx
    unfold bigX at h
    cases hf : partB (partF d) 0 y with
    | none => rw [hf] at h; cases h
    | some k =>
      rw [hf] at h
      simp only at h
      split at h
      · cases h
      · rcases List.mem_cons.1 hx with rfl | hx
        · exact ⟨k, hf⟩
        · exact ih _ m h x hx
theorem bigT_mem (d : Nat) : ∀ (T : List (List (List St))) (n m : Nat), bigT d T n = some m → ∀ l ∈ T, l.length ≤ 20 ∧ ∀ x ∈ l, ∃ k, partB (partF d) 0 x = some k := by
  intro T
  induction T with
  | nil => intro n m _ x hx; cases hx
  | cons y r ih =>
    intro n m h x hx
    unfold bigT at h
    split at h
    · cases h
    · cases hf : bigX d y n with
      | none => rw [hf] at h; cases h
      | some k =>
        rw [hf] at h
        rcases List.mem_cons.1 hx with rfl | hx
        · exact ⟨by omega, bigX_mem d _ _ _ hf⟩
        · exact ih _ m h x hx
/-- What is known of a setup that is not too large. -/
structure FewS (s : Su) : Prop where
  ini : s.init.length ≤ 100
  thr : s.thr.length ≤ 20
  txs : ∀ l ∈ s.thr, l.length ≤ 20
  tx : ∀ l ∈ s.thr, ∀ x ∈ l, FewX x
theorem largeF_no {d : Nat} {s : Su} (h : largeF d s = false) : ¬ (100 < s.init.length ∨ 20 < s.thr.length) ∧ ∃ m, bigT d s.thr 0 = some m := by
  unfold largeF at h
  split at h
  · cases h
  · rename_i hc
    refine ⟨hc, ?_⟩
    cases hb : bigT d s.thr 0 with
    | none => rw [hb] at h; cases h
    | some m => exact ⟨m, rfl⟩
theorem SuAt.fit {w : World} {lo hi d : Nat} {I T : Option Addr} {s : Su} (h : SuAt w lo hi d I T s) (hl : largeF d s = false) : SuAt w lo hi 42 I T s ∧ FewS s := by
  obtain ⟨hc, m, hm⟩ := largeF_no hl
  have hmem := bigT_mem d _ _ _ hm
  refine ⟨{ h with thr := fun k hk => ?_ }, by omega, by omega, fun l hl => (hmem l hl).1, fun l hl x hx => ?_⟩
  · obtain ⟨p, B, c, e1, m1, m2, t1, l1, h1⟩ := h.thr k hk
    refine ⟨p, B, c, e1, m1, m2, t1, l1, fun j hj => ?_⟩
    obtain ⟨p, B, c, e1, m1, m2, t1, l1, h1⟩ := h1 j hj
    obtain ⟨i, hi⟩ := (hmem _ (List.getElem_mem hk)).2 _ (List.getElem_mem hj)
    exact ⟨p, B, c, e1, m1, m2, t1, l1, h1.fit hi⟩
  · obtain ⟨k, hk⟩ := (hmem l hl).2 x hx
    exact fewX_of hk
end Go.Proofs.YtnkdaehmdcpafaaDoor
