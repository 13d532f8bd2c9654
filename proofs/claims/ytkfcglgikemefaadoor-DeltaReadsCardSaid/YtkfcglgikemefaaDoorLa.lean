/-
  LEVELS OF PAIRS (layer 8), PLAIN: what a row of pairs says of a variable (the last one counts); levels, the highest one first; the rising row of all that is said, and that there is just one such row; what Put, Push, Drop and Merge make of it. No program, no memory.
-/
import Derived.Test.YtkfcglgikemefaaDoorRows
import Derived.WalkKit
namespace Go.Proofs.YtkfcglgikemefaaDoor
set_option maxRecDepth 100000
set_option linter.unusedVariables false
abbrev Pr := Int × Int
/-- What a row of pairs, the last ones last, says of v. -/
def rowSays : List Pr → Int → Option Int
  | [], _ => none
  | p :: r, v => (rowSays r v).or (if p.1 = v then some p.2 else none)
theorem says_append (a b : List Pr) (v : Int) : rowSays (a ++ b) v = (rowSays b v).or (rowSays a v) := by
  induction a with
  | nil => cases h : rowSays b v <;> simp [rowSays, h]
  | cons p r ih => simp only [List.cons_append, rowSays, ih, Option.or_assoc]
theorem says_snoc (a : List Pr) (p : Pr) (v : Int) : rowSays (a ++ [p]) v = if p.1 = v then some p.2 else rowSays a v := by
  rw [says_append]
  by_cases h : p.1 = v <;> simp [rowSays, h]
/-- All pairs of levels (the highest one first), in the order in which they count. -/
def flatB : List (List Pr) → List Pr
  | [] => []
  | a :: t => flatB t ++ a
/-- What is written of v. -/
def saysL (T : List (List Pr)) (v : Int) : Option Int := rowSays (flatB T) v
theorem saysL_cons (a : List Pr) (t : List (List Pr)) (v : Int) : saysL (a :: t) v = (rowSays a v).or (saysL t v) := says_append _ _ _
theorem saysL_nil (v : Int) : saysL [] v = none := rfl
/-- Levels that say alike, each its own. -/
def Alike : List (List Pr) → List (List Pr) → Prop
  | [], [] => True
  | a :: s, b :: t => (∀ v, rowSays a v = rowSays b v) ∧ Alike s t
  | _, _ => False
theorem saysL_congr : ∀ {S T : List (List Pr)}, Alike S T → ∀ v, saysL S v = saysL T v
  | [], [], _, _ => rfl
  | a :: s, b :: t, h, v => by rw [saysL_cons, saysL_cons, h.1 v, saysL_congr h.2 v]
  | [], _ :: _, h, _ => h.elim
  | _ :: _, [], h, _ => h.elim
/-- The steps: 0 Put, 1 Push, 2 Drop, 3 Merge, else none; what is answered. -/
def putT (v x : Int) : List (List Pr) → List (List Pr)
  | [] => []
  | a :: t => (a ++ [(v, x)]) :: t
def dropT : List (List Pr) → List (List Pr)
  | a :: b :: t => b :: t
  | T => T
def mergeT : List (List Pr) → List (List Pr)
  | a :: b :: t => (b ++ a) :: t
  | T => T
def stepT (k : Nat) (v x : Int) (T : List (List Pr)) : List (List Pr) :=
  if k = 0 then putT v x T else if k = 1 then [] :: T else if k = 2 then dropT T else if k = 3 then mergeT T else T
def errT (k : Nat) (T : List (List Pr)) : Int := if (k = 2 ∨ k = 3) ∧ T.length < 2 then 7 else 0
theorem putT_len (v x : Int) (T : List (List Pr)) : (putT v x T).length = T.length := by cases T <;> rfl
theorem step_ne {k : Nat} {v x : Int} {T : List (List Pr)} (h : T ≠ []) : stepT k v x T ≠ [] := by
  unfold stepT
  split
  · cases T with
    | nil => exact absurd rfl h
    | cons a t => simp [putT]
  · split
    · simp
    · split
      · match T, h with
        | [a], _ => simp [dropT]
        | a :: b :: t, _ => simp [dropT]
      · split
        · match T, h with
          | [a], _ => simp [mergeT]
          | a :: b :: t, _ => simp [mergeT]
        · exact h
theorem flat_put {T : List (List Pr)} (h : T ≠ []) (v x : Int) : flatB (putT v x T) = flatB T ++ [(v, x)] := by
  cases T with
  | nil => exact absurd rfl h
  | cons a t => show flatB t ++ (a ++ [(v, x)]) = (flatB t ++ a) ++ [(v, x)]; rw [List.append_assoc]
theorem flat_push (T : List (List Pr)) : flatB ([] :: T) = flatB T := by show flatB T ++ [] = _; rw [List.append_nil]
theorem flat_merge (T : List (List Pr)) : flatB (mergeT T) = flatB T := by
  match T with
  | [] => rfl
  | [a] => rfl
  | a :: b :: t => show flatB t ++ (b ++ a) = (flatB t ++ b) ++ a; rw [List.append_assoc]
/-- Without Drop: what was put last (P8.5). -/
theorem flat_step {k : Nat} {v x : Int} {T : List (List Pr)} (h : T ≠ []) (hk : k ≠ 2) : flatB (stepT k v x T) = flatB T ++ (if k = 0 then [(v, x)] else []) := by
  unfold stepT
  by_cases h0 : k = 0
  · simp only [h0, if_true, flat_put h]
  · by_cases h1 : k = 1
    · subst h1; simp [flatB]
    · by_cases h3 : k = 3
      · subst h3; simp [flat_merge]
      · simp [h0, h1, hk, h3]
/-- What lies under a level stays while it is there (P8.3). -/
theorem step_under {k : Nat} {v x : Int} {X B : List (List Pr)} (hX : X ≠ []) (h : 1 < X.length ∨ (k ≠ 2 ∧ k ≠ 3)) : ∃ Y, Y ≠ [] ∧ stepT k v x (X ++ B) = Y ++ B ∧ Y.length = (stepT k v x X).length ∧ Y = stepT k v x X := by
  refine ⟨stepT k v x X, step_ne hX, ?_, rfl, rfl⟩
  match X, hX with
  | [a], _ =>
    have h2 : k ≠ 2 ∧ k ≠ 3 := by
      rcases h with h | h
      · simp at h
      · exact h
    unfold stepT
    by_cases h0 : k = 0
    · simp [h0, putT]
    · by_cases h1 : k = 1
      · simp [h1]
      · simp [h0, h1, h2.1, h2.2]
  | a :: b :: t, _ =>
    unfold stepT
    by_cases h0 : k = 0
    · simp [h0, putT]
    · by_cases h1 : k = 1
      · simp [h1]
      · by_cases h2 : k = 2
        · simp [h2, dropT]
        · by_cases h3 : k = 3
          · simp [h3, mergeT]
          · simp [h0, h1, h2, h3]
/-! ### The rising row -/
/-- Rising, each variable once. -/
def Up (l : List Pr) : Prop := l.Pairwise fun p q => p.1 < q.1
def look : List Pr → Int → Option Int
  | [], _ => none
  | p :: r, v => if p.1 = v then some p.2 else look r v
/-- Put into a rising row, at its place. -/
def insS (p : Pr) : List Pr → List Pr
  | [] => [p]
  | q :: r => if q.1 < p.1 then q :: insS p r else if q.1 = p.1 then (q.1, p.2) :: r else p :: q :: r
def allS (l : List Pr) : List Pr := l.foldl (fun out p => insS p out) []
theorem ins_mem {p q : Pr} {l : List Pr} (h : q ∈ insS p l) : q.1 = p.1 ∨ q ∈ l := by
  induction l with
  | nil => left; simp [insS] at h; rw [h]
  | cons a r ih =>
    unfold insS at h
    split at h
    · rcases List.mem_cons.1 h with h | h
      · right; rw [h]; exact List.mem_cons_self ..
      · rcases ih h with h | h
        · exact .inl h
        · exact .inr (List.mem_cons_of_mem _ h)
    · split at h
      · rename_i he
        rcases List.mem_cons.1 h with h | h
        · left; rw [h]; exact he
        · right; exact List.mem_cons_of_mem _ h
      · rcases List.mem_cons.1 h with h | h
        · left; rw [h]
        · right; exact h
theorem up_ins {p : Pr} {l : List Pr} (h : Up l) : Up (insS p l) := by
  induction l with
  | nil => exact List.pairwise_singleton ..
  | cons a r ih =>
    obtain ⟨h1, h2⟩ := List.pairwise_cons.1 h
    unfold insS
    split
    · rename_i ha
      refine List.pairwise_cons.2 ⟨fun q hq => ?_, ih h2⟩
      rcases ins_mem hq with e | e
      · rw [e]; exact ha
      · exact h1 q e
    · split
      · exact List.pairwise_cons.2 ⟨h1, h2⟩
      · rename_i ha hb
        refine List.pairwise_cons.2 ⟨fun q hq => ?_, h⟩
        rcases List.mem_cons.1 hq with e | e
        · rw [e]; omega
        · have := h1 q e; omega
theorem look_low {l : List Pr} {v : Int} (h : ∀ q ∈ l, v < q.1) : look l v = none := by
  induction l with
  | nil => rfl
  | cons a r ih =>
    have := h a (List.mem_cons_self ..)
    unfold look
    rw [if_neg (by omega)]
    exact ih fun q hq => h q (List.mem_cons_of_mem _ hq)
theorem look_ins {p : Pr} {l : List Pr} (h : Up l) (v : Int) : look (insS p l) v = if p.1 = v then some p.2 else look l v := by
  induction l with
  | nil => rfl
  | cons a r ih =>
    obtain ⟨h1, h2⟩ := List.pairwise_cons.1 h
    unfold insS
    split
    · rename_i ha
      simp only [look, ih h2]
      by_cases e : a.1 = v
      · rw [if_pos e, if_pos e, if_neg (by omega)]
      · rw [if_neg e, if_neg e]
    · split
      · rename_i ha hb
        simp only [look, hb]
        by_cases e : p.1 = v
        · rw [if_pos e, if_pos e]
        · rw [if_neg e, if_neg e, if_neg e]
      · rfl
theorem up_all (l : List Pr) : Up (allS l) := by
  have : ∀ (l out : List Pr), Up out → Up (l.foldl (fun out p => insS p out) out) := by
    intro l
    induction l with
    | nil => intro out h; exact h
    | cons p r ih => intro out h; exact ih _ (up_ins h)
  exact this l [] List.Pairwise.nil
theorem look_all (l : List Pr) (v : Int) : look (allS l) v = rowSays l v := by
  have : ∀ (l out : List Pr), Up out → look (l.foldl (fun out p => insS p out) out) v = (rowSays l v).or (look out v) := by
    intro l
    induction l with
    | nil => intro out h; simp [rowSays]
    | cons p r ih =>
      intro out h
      rw [List.foldl_cons, ih _ (up_ins h), look_ins h]
      simp only [rowSays, Option.or_assoc]
      by_cases e : p.1 = v <;> simp [e]
  have h := this l [] List.Pairwise.nil
  unfold allS
  rw [h]
  simp [look]
theorem look_head {a : Pr} {r : List Pr} : look (a :: r) a.1 = some a.2 := by simp [look]
/-- There is just one rising row that says so. -/
theorem up_ext {a b : List Pr} (ha : Up a) (hb : Up b) (h : ∀ v, look a v = look b v) : a = b := by
  induction a generalizing b with
  | nil =>
    cases b with
    | nil => rfl
    | cons q s => have := h q.1; rw [look_head] at this; simp [look] at this
  | cons p r ih =>
    cases b with
    | nil => have := h p.1; rw [look_head] at this; simp [look] at this
    | cons q s =>
      obtain ⟨p1, p2⟩ := List.pairwise_cons.1 ha
      obtain ⟨q1, q2⟩ := List.pairwise_cons.1 hb
      have e1 : p.1 = q.1 := by
        rcases Int.lt_trichotomy p.1 q.1 with hl | he | hg
        · have := h p.1
          rw [look_head, look_low (l := q :: s) (fun x hx => by
            rcases List.mem_cons.1 hx with e | e
            · rw [e]; exact hl
            · have := q1 x e; omega)] at this
          exact absurd this (by simp)
        · exact he
        · have := h q.1
          rw [look_head, look_low (l := p :: r) (fun x hx => by
            rcases List.mem_cons.1 hx with e | e
            · rw [e]; exact hg
            · have := p1 x e; omega)] at this
          exact absurd this (by simp)
      have e2 : p.2 = q.2 := by
        have := h p.1
        rw [look_head, e1, look_head] at this
        exact Option.some.inj this
      have e3 : r = s := ih p2 q2 fun v => by
        by_cases hv : p.1 = v
        · rw [look_low (fun x hx => by have := p1 x hx; omega), look_low (fun x hx => by have := q1 x hx; omega)]
        · have := h v
          simp only [look] at this
          rwa [if_neg hv, if_neg (by omega)] at this
      rw [e3, Prod.ext e1 e2]
/-- All: it is the levels' alone (P8.4, P8.6). -/
theorem all_says {a b : List Pr} (h : ∀ v, rowSays a v = rowSays b v) : allS a = allS b := up_ext (up_all a) (up_all b) fun v => by rw [look_all, look_all, h v]
theorem all_up {l : List Pr} {a : List Pr} (ha : Up a) (h : ∀ v, look a v = rowSays l v) : a = allS l := up_ext ha (up_all l) fun v => by rw [look_all, h v]
theorem all_snoc (l : List Pr) (p : Pr) : allS (l ++ [p]) = insS p (allS l) := by simp [allS, List.foldl_append]
theorem up_get {l : List Pr} (h : Up l) (i : Nat) (hi : i < l.length) : look l l[i].1 = some l[i].2 := by
  induction l generalizing i with
  | nil => exact absurd hi (by simp)
  | cons a r ih =>
    obtain ⟨h1, h2⟩ := List.pairwise_cons.1 h
    cases i with
    | zero => exact look_head
    | succ i =>
      have hi' : i < r.length := by simpa using hi
      show look (a :: r) r[i].1 = some r[i].2
      have := h1 r[i] (List.getElem_mem hi')
      unfold look
      rw [if_neg (by omega)]
      exact ih h2 i hi'
theorem all_len (l : List Pr) : (allS l).length ≤ l.length := by
  have hi : ∀ (p : Pr) (o : List Pr), (insS p o).length ≤ o.length + 1 := by
    intro p o
    induction o with
    | nil => simp [insS]
    | cons a r ih =>
      unfold insS
      split
      · simp; exact ih
      · split
        · simp
        · simp
  have : ∀ (l out : List Pr), (l.foldl (fun out p => insS p out) out).length ≤ out.length + l.length := by
    intro l
    induction l with
    | nil => intro out; simp
    | cons p r ih => intro out; have h1 := ih (insS p out); have h2 := hi p out; simp only [List.foldl_cons, List.length_cons]; omega
  have h := this l []
  unfold allS
  simpa using h
end Go.Proofs.YtkfcglgikemefaaDoor
