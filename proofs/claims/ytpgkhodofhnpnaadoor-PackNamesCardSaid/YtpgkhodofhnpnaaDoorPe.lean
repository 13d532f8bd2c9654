/-
  LAYER 7's READER, PLAIN: what stands behind each Kind, letter by letter; how many statements a tree has; a transaction of too many of them is cut, and may not be either way. No condition.
-/
import Derived.Test.YtpgkhodofhnpnaaDoorPc
namespace Go.Proofs.YtpgkhodofhnpnaaDoor
set_option maxRecDepth 100000
open Go.RowKit
set_option linter.unusedVariables false
/-! ### How many -/
def lenS : Nat → St → Nat
  | 0, _ => 0
  | d + 1, .node _ _ _ _ y e => 1 + ((y.map (lenS d)).sum + (e.map (lenS d)).sum)
def lenL (d : Nat) (l : List St) : Nat := (l.map (lenS d)).sum
theorem flatMap_len {α β : Type} (f : α → List β) : ∀ (l : List α), (l.flatMap f).length = (l.map fun x => (f x).length).sum := by
  intro l
  induction l with
  | nil => rfl
  | cons x r ih => rw [List.flatMap_cons, List.length_append, ih, List.map_cons, List.sum_cons]
theorem flatS_len : ∀ (d deep : Nat) (x : St), (flatS d deep x).length = lenS d x := by
  intro d
  induction d with
  | zero => intro deep x; rfl
  | succ d ih =>
    intro deep x
    obtain ⟨k, t, a, b, y, e⟩ := x
    rw [flatS, lenS, List.length_cons, List.length_append, flatMap_len, flatMap_len]
    have : (fun x => (flatS d (deep + 1) x).length) = lenS d := by funext x; exact ih _ x
    rw [this]
    omega
theorem flat_len (d : Nat) (l : List St) : (flat d l).length = lenL d l := by
  unfold flat lenL
  rw [flatMap_len]
  congr 1
  congr 1
  funext x
  exact flatS_len d 1 x
theorem lenL_snoc (d : Nat) (l : List St) (x : St) : lenL d (l ++ [x]) = lenL d l + lenS d x := by simp [lenL]
theorem lenL_nil (d : Nat) : lenL d [] = 0 := rfl
def innerS (d : Nat) : St → Nat
  | .node _ _ _ _ y e => lenL d y + lenL d e
theorem lenS_inner (d : Nat) (x : St) : lenS (d + 1) x = 1 + innerS d x := by
  obtain ⟨k, t, a, b, y, e⟩ := x
  rfl
/-- x is what is kept of y, if n statements were counted ahead of it, and n' behind: all, if these are few; else too many. -/
def Cut (d n n' : Nat) (x y : List St) : Prop := n' = n + lenL d y ∧ (n' ≤ 41 → x = y) ∧ (41 < n' → n ≤ 41 → 41 ≤ n + lenL d x)
def CutS (d n n' : Nat) (x y : St) : Prop := n' = n + innerS d y ∧ (n' ≤ 41 → x = y) ∧ (41 < n' → n ≤ 41 → 41 ≤ n + innerS d x)
theorem Cut.nil (d n : Nat) : Cut d n n [] [] := ⟨by simp [lenL], fun _ => rfl, fun h1 h2 => by omega⟩
/-- One statement more, that is kept. -/
theorem Cut.snoc {d n n1 n2 : Nat} {x y : List St} {u v : St} (h : Cut (d + 1) n n1 x y) (k : CutS d (n1 + 1) n2 u v) (hk : n1 + 1 ≤ 41) : Cut (d + 1) n n2 (x ++ [u]) (y ++ [v]) := by
  obtain ⟨h1, h2, h3⟩ := h
  obtain ⟨k1, k2, k3⟩ := k
  refine ⟨by rw [lenL_snoc, lenS_inner]; omega, fun h => ?_, fun ha hb => ?_⟩
  · rw [h2 (by omega), k2 h]
  · have := k3 ha hk
    rw [lenL_snoc, lenS_inner, h2 (by omega)]
    omega
/-- One that is not. -/
theorem Cut.skip {d n n1 n2 : Nat} {x y : List St} {u v : St} (h : Cut (d + 1) n n1 x y) (k : CutS d (n1 + 1) n2 u v) (hk : ¬ n1 + 1 ≤ 41) : Cut (d + 1) n n2 x (y ++ [v]) := by
  obtain ⟨h1, h2, h3⟩ := h
  obtain ⟨k1, k2, k3⟩ := k
  refine ⟨by rw [lenL_snoc, lenS_inner]; omega, fun h => by omega, fun ha hb => ?_⟩
  by_cases h4 : 41 < n1
  · exact h3 h4 hb
  · rw [h2 (by omega)]
    omega
/-! ### What stands behind a Kind -/
def letters (k : Nat) : List UInt8 := if k = 1 then [84, 65] else if k = 2 then [84, 65] else if k = 3 then [65, 66] else if k = 4 then [65, 98, 101] else if k = 5 then [65, 98] else if k = 7 then [98, 101] else if k = 8 then [65] else []
theorem letters_of (k : Nat) : letters k = [84, 65] ∨ letters k = [65, 66] ∨ letters k = [65, 98, 101] ∨ letters k = [65, 98] ∨ letters k = [98, 101] ∨ letters k = [65] ∨ letters k = [] := by
  unfold letters
  repeat' split
  all_goals simp
def nB : List UInt8 → Nat
  | [] => 0
  | c :: l => (if c = 98 ∨ c = 101 then 1 else 0) + nB l
section
variable (s : List UInt8) (blk : Nat → Res (List St))
/-- A letter's part, put into a statement. -/
def stepL (c : UInt8) (x : St) (at_ : Nat) : Res St := match x with
  | .node k t a b y e => if c = 84 then andThen (pNum s 0 7 at_) fun (t : Nat) q => .ok (.node k t a b y e, q) else if c = 65 then andThen (pEx s 6 at_) fun a q => .ok (.node k t a b y e, q)
    else if c = 66 then andThen (pEx s 6 at_) fun b q => .ok (.node k t a b y e, q) else if c = 98 then andThen (blk at_) fun y q => .ok (.node k t a b y e, q) else andThen (blk at_) fun e q => .ok (.node k t a b y e, q)
def pLets : List UInt8 → St → Nat → Res St
  | [], x, p => .ok (x, p)
  | c :: l, x, p => andThen (stepL s blk c x p) fun x q => pLets l x q
def st0 (k : Nat) : St := .node k 0 ex0 ex0 [] []
theorem pLets_snoc (c : UInt8) : ∀ (l : List UInt8) (x : St) (p : Nat), pLets s blk (l ++ [c]) x p = andThen (pLets s blk l x p) fun x q => stepL s blk c x q := by
  intro l
  induction l with
  | nil =>
    intro x p
    show andThen (stepL s blk c x p) (fun x q => .ok (x, q)) = stepL s blk c x p
    match stepL s blk c x p with
    | .error e => rfl
    | .ok (y, q) => rfl
  | cons c' l ih =>
    intro x p
    show andThen (stepL s blk c' x p) (fun x q => pLets s blk (l ++ [c]) x q) = andThen (andThen (stepL s blk c' x p) fun x q => pLets s blk l x q) fun x q => stepL s blk c x q
    rw [andThen_assoc]
    congr 1
    funext x q
    exact ih x q
theorem ok_then {α β : Type} (x : α) (p : Nat) (k : α → Nat → Res β) : andThen (.ok (x, p)) k = k x p := rfl
theorem pSt_lets (at_ : Nat) : pSt s blk at_ = andThen (pNum s 1 8 at_) fun k p => pLets s blk (letters k) (st0 k) p := by
  unfold pSt
  match hr : pNum s 1 8 at_ with
  | .error e => rfl
  | .ok (k, p) =>
    have := num_ok hr
    have ho : k = 1 ∨ k = 2 ∨ k = 3 ∨ k = 4 ∨ k = 5 ∨ k = 6 ∨ k = 7 ∨ k = 8 := by omega
    have fin : ∀ {α : Type} (r : Res α), andThen r (fun x q => .ok (x, q)) = r := fun r => by
      match r with
      | .error e => rfl
      | .ok (y, q) => rfl
    rcases ho with rfl | rfl | rfl | rfl | rfl | rfl | rfl | rfl <;> simp [andThen_assoc, letters, pLets, stepL, st0, fin, ok_then]
end
end Go.Proofs.YtpgkhodofhnpnaaDoor
