/-
  PLAIN LEAN (layer 9): a stack of blocks, the innermost one first, as what is to be done; what a statement's step makes of it. No condition.
-/
import Derived.Test.YthdcdffdpdoeoaaGreatDoorJa
namespace Go.Proofs.YthdcdffdpdoeoaaGreatDoor
set_option maxRecDepth 100000
set_option linter.unusedVariables false
/-- A block, as far as it is not done: what is left of it; of a Loop the Body, and how often it is next anew; of an OrElse's Body the locals as they were kept, and its Else. -/
structure Fr9 where
  rest : List St
  body : List St
  turns : Nat
  kept : Option (List Int × List St)
def kOf : List Fr9 → List (List Pr) → List It
  | [], _ => []
  | f :: r, T => itemsI f.rest (timesI f.turns f.body (match f.kept with
    | none => kOf r T
    | some x => It.mark x.1 (flatB T.tail) x.2 :: kOf r T.tail))
theorem kOf_tail (F : List Fr9) : ∀ {T T' : List (List Pr)}, T.tail = T'.tail → kOf F T = kOf F T' := by
  induction F with
  | nil => intro T T' h; rfl
  | cons f r ih =>
    intro T T' h
    rw [kOf, kOf]
    cases hk : f.kept with
    | none => dsimp only; rw [ih h]
    | some x => dsimp only; rw [h]
theorem items_nil (k : List It) : itemsI [] k = k := rfl
theorem items_cons (s : St) (l : List St) (k : List It) : itemsI (s :: l) k = .st s :: itemsI l k := rfl
/-- Is there something next in the innermost block? -/
def Ready9 : List Fr9 → Prop
  | [] => True
  | f :: _ => f.rest ≠ []
theorem bare_ready {F : List Fr9} {T : List (List Pr)} (h : Ready9 F) : bareI (kOf F T) = kOf F T := by
  cases F with
  | nil => rfl
  | cons f r =>
    obtain ⟨rest, body, turns, kept⟩ := f
    cases rest with
    | nil => exact absurd rfl h
    | cons s l => rfl
theorem leave_turn (body y : List St) (n : Nat) (kp : Option (List Int × List St)) (r : List Fr9) (T : List (List Pr)) : kOf (⟨body, body, n, kp⟩ :: r) T = kOf (⟨[], body, n + 1, kp⟩ :: r) T := rfl
theorem leave_none (body : List St) (r : List Fr9) (T : List (List Pr)) : kOf (⟨[], body, 0, none⟩ :: r) T = kOf r T := rfl
theorem merge_tail {T : List (List Pr)} : (mergeT T).tail = T.tail.tail := by
  match T with
  | [] => rfl
  | [a] => rfl
  | a :: b :: t => rfl
theorem leave_some (body : List St) (x : List Int × List St) (r : List Fr9) (T : List (List Pr)) : bareI (kOf (⟨[], body, 0, some x⟩ :: r) T) = bareI (kOf r (mergeT T)) := by
  show bareI (kOf r T.tail) = _
  rw [kOf_tail r (T := T.tail) (T' := mergeT T) merge_tail.symm]
theorem mark_items (l : List St) (k : List It) : markI (itemsI l k) = markI k := by
  induction l with
  | nil => rfl
  | cons s l ih => exact ih
theorem mark_times (n : Nat) (l : List St) (k : List It) : markI (timesI n l k) = markI k := by
  induction n with
  | zero => rfl
  | succ n ih => rw [timesI, mark_items, ih]
/-- The innermost OrElse, and the blocks around it. -/
def keptOf : List Fr9 → Option (List Int × List St × List Fr9)
  | [] => none
  | f :: r => match f.kept with
    | none => keptOf r
    | some x => some (x.1, x.2, r)
theorem mark_kOf (F : List Fr9) (T : List (List Pr)) : markI (kOf F T) = (keptOf F).map fun x => (x.1, flatB T.tail, x.2.1, kOf x.2.2 T.tail) := by
  induction F with
  | nil => rfl
  | cons f r ih =>
    rw [kOf, mark_items, mark_times, keptOf]
    cases f.kept with
    | none => exact ih
    | some x => rfl
/-- How many OrElses there are around. -/
def keptN : List Fr9 → Nat
  | [] => 0
  | f :: r => (if f.kept.isSome then 1 else 0) + keptN r
theorem keptOf_n : ∀ {F : List Fr9} {l : List Int} {e : List St} {r : List Fr9}, keptOf F = some (l, e, r) → keptN F = keptN r + 1 := by
  intro F
  induction F with
  | nil => intro l e r h; cases h
  | cons f r ih =>
    intro l e r2 h
    rw [keptOf] at h
    rw [keptN]
    cases hk : f.kept with
    | none => rw [hk] at h; dsimp only at h; have := ih h; simp; omega
    | some x => rw [hk] at h; dsimp only at h; injection h with h; injection h with h1 h2; injection h2 with h2 h3; subst h3; simp; omega
theorem keptOf_none : ∀ {F : List Fr9}, keptOf F = none → ∀ f ∈ F, f.kept = none := by
  intro F
  induction F with
  | nil => intro h f hf; cases hf
  | cons g r ih =>
    intro h f hf
    rw [keptOf] at h
    cases hk : g.kept with
    | none =>
      rw [hk] at h
      rcases List.mem_cons.1 hf with e | e
      · rw [e]; exact hk
      · exact ih h f e
    | some x => rw [hk] at h; cases h
/-- A statement that may be done: its kind, its local; what is in it. -/
def Good9 : Nat → St → Prop
  | 0, _ => False
  | d + 1, .node k t _ _ y e => (1 ≤ k ∧ k ≤ 8 ∧ 0 ≤ t ∧ t < 8) ∧ (∀ s ∈ y, Good9 d s) ∧ (∀ s ∈ e, Good9 d s)
def FGood (d : Nat) (f : Fr9) : Prop := (∀ s ∈ f.rest, Good9 d s) ∧ (∀ s ∈ f.body, Good9 d s) ∧ (∀ x, f.kept = some x → ∀ s ∈ x.2, Good9 d s)
/-- The blocks' statements are in one another at most seven deep. -/
def Deep9 : Nat → List Fr9 → Prop
  | d, [] => d ≤ 7
  | d, f :: r => FGood d f ∧ Deep9 (d + 1) r
theorem deep_len : ∀ {F : List Fr9} {d : Nat}, Deep9 d F → F.length + d ≤ 7 := by
  intro F
  induction F with
  | nil => intro d h; have h : d ≤ 7 := h; simpa using h
  | cons f r ih => intro d h; have := ih h.2; simp; omega
theorem keptN_le : ∀ F : List Fr9, keptN F ≤ F.length := by
  intro F
  induction F with
  | nil => exact Nat.le_refl _
  | cons f r ih => rw [keptN, List.length_cons]; split <;> omega
/-- A statement that is no deeper than D. -/
def Fit9 : Nat → St → Prop
  | 0, _ => False
  | d + 1, .node _ _ _ _ y e => (∀ s ∈ y, Fit9 d s) ∧ (∀ s ∈ e, Fit9 d s)
/-- Each statement of a block that may be. -/
theorem good_of : ∀ (d D E : Nat) (deep : Nat) (n : Int) (s : St), 7 ≤ deep + d → 1 ≤ d → Fit9 D s → (∀ x ∈ flatS D deep s, okEach E n x = true) → Good9 d s := by
  intro d
  induction d with
  | zero => intro D E deep n s h h1; omega
  | succ d ih =>
    intro D E deep n s h _ hD hx
    obtain ⟨D, rfl⟩ : ∃ m, D = m + 1 := by
      cases D with
      | zero => exact hD.elim
      | succ m => exact ⟨m, rfl⟩
    obtain ⟨k, t, a, b, y, e⟩ := s
    rw [flatS] at hx
    have h0 := hx _ (List.mem_cons_self ..)
    unfold okEach shapedF at h0
    simp only [Bool.and_eq_true, decide_eq_true_eq] at h0
    have e1 : (St.node k t a b y e).kind = k := rfl
    have e2 : (St.node k t a b y e).to = t := rfl
    rw [e1, e2] at h0
    have hdeep := h0.1
    have hk : ¬ (k < 1 ∨ 8 < k) := fun hc => by
      have h2 := h0.2
      rw [if_pos hc] at h2
      cases h2
    have h2 := h0.2
    rw [if_neg hk] at h2
    simp only [Bool.and_eq_true, decide_eq_true_eq] at h2
    have key : ∀ l : List St, (∀ s ∈ l, Fit9 D s) → (∀ x ∈ l.flatMap (flatS D (deep + 1)), okEach E n x = true) → ∀ s ∈ l, Good9 d s := by
      intro l hf hl s hs
      have hfs := hf s hs
      have hm : ∀ x ∈ flatS D (deep + 1) s, okEach E n x = true := fun x hx => hl x (List.mem_flatMap.2 ⟨s, hs, hx⟩)
      have hq : 1 ≤ d := by
        rcases Nat.eq_zero_or_pos d with h3 | h3
        · obtain ⟨D', hD'⟩ : ∃ m, D = m + 1 := by
            cases D with
            | zero => exact hfs.elim
            | succ m => exact ⟨m, rfl⟩
          rw [hD'] at hm
          obtain ⟨k2, t2, a2, b2, y2, e2⟩ := s
          rw [flatS] at hm
          have h4 := hm _ (List.mem_cons_self ..)
          unfold okEach at h4
          simp only [Bool.and_eq_true, decide_eq_true_eq] at h4
          have h5 : deep + 1 ≤ 6 := h4.1
          omega
        · exact h3
      exact ih D E (deep + 1) n s (by omega) hq hfs hm
    refine ⟨⟨?_, ?_, ?_, ?_⟩, key y hD.1 fun x hx2 => hx x (List.mem_cons_of_mem _ (List.mem_append_left _ hx2)), key e hD.2 fun x hx2 => hx x (List.mem_cons_of_mem _ (List.mem_append_right _ hx2))⟩
    · omega
    · omega
    · exact h2.2.1
    · exact h2.2.2.1
end Go.Proofs.YthdcdffdpdoeoaaGreatDoor
