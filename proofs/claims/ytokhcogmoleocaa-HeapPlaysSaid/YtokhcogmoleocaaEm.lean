/-
  EXPRESSIONS (layer 4), PLAIN: trees; how many parts, whether whole, whether below, what they come to, whether the same; and where a tree lies in memory (between two blocks). No condition.
-/
import Derived.Test.YtokhcogmoleocaaRows
import Derived.WalkKit
import Derived.Below
import Derived.PlainAid
import Derived.Lib.Hide
namespace Go.Proofs.Ytokhcogmoleocaa
set_option maxRecDepth 100000
open Go.RowKit
set_option linter.unusedVariables false

inductive Ex where
  | node (op : Nat) (n : Int) (args : List Ex)
instance : Inhabited Ex := ⟨.node 0 0 []⟩
def Ex.op : Ex → Nat | .node o _ _ => o
def Ex.num : Ex → Int | .node _ n _ => n
def Ex.args : Ex → List Ex | .node _ _ a => a

/-- Of how many expressions it is (d: no more stand in a row). -/
def cnt : Nat → Ex → Nat
  | 0, _ => 0
  | d + 1, .node _ _ args => 1 + (args.map (cnt d)).sum
/-- The statements' own guard: how many parts, if it is no more than they go over. -/
def muchL (f : Ex → Option Nat) : List Ex → Nat → Option Nat
  | [], n => some n
  | e :: r, n => match f e with
    | none => none
    | some k => if 400 < n + k then none else muchL f r (n + k)
def muchF : Nat → Ex → Nat → Option Nat
  | 0, _, _ => none
  | d + 1, .node _ _ args, deep => if 30 < deep ∨ 10 < args.length then none else muchL (fun e => muchF d e (deep + 1)) args 1
/-- Just two, of which both are so. -/
def both (f : Ex → Bool) : List Ex → Bool
  | [a, b] => f a && f b
  | _ => false
theorem both_no (f : Ex → Bool) (l : List Ex) (h : l.length ≠ 2) : both f l = false := by
  match l, h with
  | [], _ => rfl
  | [_], _ => rfl
  | _ :: _ :: _ :: _, _ => rfl
  | [_, _], h => exact absurd rfl h
/-- Whether it is whole, so many in a row at most. -/
def wholeF : Nat → Ex → Bool
  | 0, _ => false
  | m + 1, .node op n args =>
    if op = 1 then decide (args.length = 0)
    else if op = 2 then decide (args.length = 0 ∧ 0 ≤ n ∧ n < 8)
    else if op = 3 then decide (args.length = 0 ∧ 0 ≤ n ∧ n < 6)
    else if 4 ≤ op ∧ op ≤ 8 then decide (n = 0) && both (fun e => wholeF m e) args
    else false
/-- Whether each Got is below a number. -/
def belowF : Nat → Ex → Int → Bool
  | 0, _, _ => true
  | d + 1, .node op n args, m => !(decide (op = 3) && decide (m ≤ n)) && args.all fun e => belowF d e m
def opV (op : Nat) (x y : Int) : Int :=
  if op = 4 then wrap64 (x + y) else if op = 5 then wrap64 (x - y) else if op = 6 then wrap64 (x * y) else if op = 7 then (if x < y then 1 else 0) else (if x = y then 1 else 0)
/-- Of two parts, an operator. -/
def come2 (op : Nat) (f : Ex → Int × Nat) : List Ex → Int × Nat
  | [a, b] => if (f a).2 ≠ 0 then (0, (f a).2) else if (f b).2 ≠ 0 then (0, (f b).2) else (opV op (f a).1 (f b).1, 0)
  | _ => (0, 0)
/-- What it comes to: a value, and an error. -/
def comeF : Nat → Ex → List Int → List Int → Int × Nat
  | 0, _, _, _ => (0, 0)
  | m + 1, .node op n args, locals, got =>
    if op = 1 then (n, 0)
    else if op = 2 then (if (locals.length : Int) ≤ n then (0, 5) else (locals.getD n.toNat 0, 0))
    else if op = 3 then (if (got.length : Int) ≤ n then (0, 5) else (got.getD n.toNat 0, 0))
    else come2 op (fun e => comeF m e locals got) args
def evalF (e : Ex) (locals got : List Int) : Int × Nat := if wholeF 6 e then comeF 6 e locals got else (0, 4)
def sameL (f : Ex → Ex → Bool) : List Ex → List Ex → Bool
  | [], [] => true
  | a :: r, b :: s => f a b && sameL f r s
  | _, _ => false
def sameF : Nat → Ex → Ex → Bool
  | 0, _, _ => false
  | d + 1, .node o n as1, .node p m bs => decide (o = p) && (decide (n = m) && sameL (sameF d) as1 bs)

/-! ### Plain facts -/
theorem sum_take (f : Ex → Nat) (l : List Ex) (k : Nat) (h : k < l.length) : ((l.take (k + 1)).map f).sum = ((l.take k).map f).sum + f l[k] := by
  rw [List.take_succ_eq_append_getElem h, List.map_append, List.sum_append]
  simp
theorem sum_le (f : Ex → Nat) (l : List Ex) (k : Nat) : ((l.take k).map f).sum ≤ (l.map f).sum := by
  have h : (l.map f).sum = ((l.take k).map f).sum + ((l.drop k).map f).sum := by rw [← List.sum_append, ← List.map_append, List.take_append_drop]
  omega
theorem muchL_sum (f : Ex → Option Nat) (g : Ex → Nat) : ∀ (l : List Ex) (n m : Nat), (∀ e ∈ l, ∀ k, f e = some k → g e = k) → n ≤ 400 → muchL f l n = some m → m = n + (l.map g).sum ∧ m ≤ 400 := by
  intro l
  induction l with
  | nil => intro n m _ hn h; simp [muchL] at h; subst h; simp; exact hn
  | cons e r ih =>
    intro n m hg hn h
    unfold muchL at h
    cases hf : f e with
    | none => rw [hf] at h; cases h
    | some k =>
      rw [hf] at h
      simp only at h
      by_cases hk : 400 < n + k
      · rw [if_pos hk] at h; cases h
      · rw [if_neg hk] at h
        obtain ⟨h1, h2⟩ := ih (n + k) m (fun x hx => hg x (List.mem_cons_of_mem _ hx)) (by omega) h
        have := hg e (List.mem_cons_self ..) k hf
        refine ⟨?_, h2⟩
        rw [h1, List.map_cons, List.sum_cons, this]
        omega
theorem muchF_cnt (d : Nat) : ∀ (e : Ex) (deep m : Nat), muchF d e deep = some m → cnt d e = m ∧ m ≤ 400 := by
  induction d with
  | zero => intro e deep m h; cases h
  | succ d ih =>
    intro e deep m h
    obtain ⟨o, n, args⟩ := e
    unfold muchF at h
    by_cases hc : 30 < deep ∨ 10 < args.length
    · rw [if_pos hc] at h; cases h
    · rw [if_neg hc] at h
      obtain ⟨h1, h2⟩ := muchL_sum _ (cnt d) args 1 m (fun e _ k hk => (ih e (deep + 1) k hk).1) (by omega) h
      exact ⟨by rw [cnt, h1], h2⟩
theorem sameL_refl (f : Ex → Ex → Bool) (l : List Ex) (h : ∀ e ∈ l, f e e = true) : sameL f l l = true := by
  induction l with
  | nil => rfl
  | cons e r ih => rw [sameL, h e (List.mem_cons_self ..), ih fun x hx => h x (List.mem_cons_of_mem _ hx)]; rfl

theorem sameL_len (f : Ex → Ex → Bool) : ∀ (a b : List Ex), a.length ≠ b.length → sameL f a b = false := by
  intro a
  induction a with
  | nil => intro b h; cases b with
    | nil => exact absurd rfl h
    | cons _ _ => rfl
  | cons x a ih => intro b h; cases b with
    | nil => rfl
    | cons y b => rw [sameL, ih b (by simpa using h), Bool.and_false]
theorem sameL_drop (f : Ex → Ex → Bool) (a b : List Ex) (k : Nat) (ha : k < a.length) (hb : k < b.length) : sameL f (a.drop k) (b.drop k) = (f a[k] b[k] && sameL f (a.drop (k + 1)) (b.drop (k + 1))) := by
  rw [List.drop_eq_getElem_cons ha, List.drop_eq_getElem_cons hb]
  rfl

/-! ### Where a tree lies -/
/-- The value v is the tree e, whose lists lie in blocks from lo on, below hi; no more than d stand in a row. -/
def At (w : World) (lo hi : Nat) : Nat → Value → Ex → Prop
  | 0, _, _ => False
  | d + 1, v, .node op n args => op < 256 ∧ -9223372036854775808 ≤ n ∧ n < 9223372036854775808 ∧ args.length ≤ 9223372036854775807 ∧ ∃ A c, v = .agg #[.int .u8 op, .int .i64 n, .slice A args.length c] ∧
      ∀ k (h : k < args.length), ∃ a x y z, A = some a ∧ lo ≤ a.block ∧ a.block < hi ∧ w.cell? (a.add (k * 3)) = some x ∧ w.cell? ⟨(a.add (k * 3)).block, (a.add (k * 3)).off + 1, none⟩ = some y ∧ w.cell? ⟨(a.add (k * 3)).block, (a.add (k * 3)).off + 2, none⟩ = some z ∧ At w lo hi d (.agg #[x, y, z]) args[k]
theorem ad_block (a : Addr) (n : Nat) : (a.add n).block = a.block := by unfold Addr.add; split <;> rfl
theorem At.keep {w w' : World} {lo hi : Nat} (hk : ∀ p : Addr, lo ≤ p.block → p.block < hi → w'.cell? p = w.cell? p) : ∀ (d : Nat) {v : Value} {e : Ex}, At w lo hi d v e → At w' lo hi d v e := by
  intro d
  induction d with
  | zero => intro v e h; exact h
  | succ d ih =>
    intro v e h
    obtain ⟨op, n, args⟩ := e
    obtain ⟨h1, h2, h3, h4, A, c, rfl, hc⟩ := h
    refine ⟨h1, h2, h3, h4, A, c, rfl, fun k hk' => ?_⟩
    obtain ⟨a, x, y, z, rfl, b1, b2, c1, c2, c3, hr⟩ := hc k hk'
    refine ⟨a, x, y, z, rfl, b1, b2, ?_, ?_, ?_, ih hr⟩
    · rw [hk _ (by rw [ad_block]; exact b1) (by rw [ad_block]; exact b2)]; exact c1
    · rw [hk _ (by show lo ≤ (a.add (k * 3)).block; rw [ad_block]; exact b1) (by show (a.add (k * 3)).block < hi; rw [ad_block]; exact b2)]; exact c2
    · rw [hk _ (by show lo ≤ (a.add (k * 3)).block; rw [ad_block]; exact b1) (by show (a.add (k * 3)).block < hi; rw [ad_block]; exact b2)]; exact c3
theorem At.below {w w' : World} {lo hi B d : Nat} {v : Value} {e : Ex} (h : At w lo hi d v e) (hb : Below B w w') (hB : hi ≤ B) : At w' lo hi d v e :=
  h.keep (fun p _ hp => hb.cell (by omega)) d
theorem At.wide {w : World} {lo hi lo' hi' : Nat} (hl : lo' ≤ lo) (hh : hi ≤ hi') : ∀ (d : Nat) {v : Value} {e : Ex}, At w lo hi d v e → At w lo' hi' d v e := by
  intro d
  induction d with
  | zero => intro v e h; exact h
  | succ d ih =>
    intro v e h
    obtain ⟨op, n, args⟩ := e
    obtain ⟨h1, h2, h3, h4, A, c, rfl, hc⟩ := h
    refine ⟨h1, h2, h3, h4, A, c, rfl, fun k hk' => ?_⟩
    obtain ⟨a, x, y, z, rfl, b1, b2, c1, c2, c3, hr⟩ := hc k hk'
    exact ⟨a, x, y, z, rfl, by omega, by omega, c1, c2, c3, ih hr⟩
theorem At.more {w : World} {lo hi : Nat} : ∀ (d d' : Nat) {v : Value} {e : Ex}, d ≤ d' → At w lo hi d v e → At w lo hi d' v e := by
  intro d
  induction d with
  | zero => intro d' v e _ h; exact h.elim
  | succ d ih =>
    intro d' v e hd h
    obtain ⟨op, n, args⟩ := e
    obtain ⟨d', rfl⟩ : ∃ q, d' = q + 1 := ⟨d' - 1, by omega⟩
    obtain ⟨h1, h2, h3, h4, A, c, rfl, hc⟩ := h
    refine ⟨h1, h2, h3, h4, A, c, rfl, fun k hk' => ?_⟩
    obtain ⟨a, x, y, z, rfl, b1, b2, c1, c2, c3, hr⟩ := hc k hk'
    exact ⟨a, x, y, z, rfl, by omega, by omega, c1, c2, c3, ih d' (by omega) hr⟩
/-- A list of numbers that lies in memory. -/
structure Ints (w : World) (hi : Nat) (A : Option Addr) (xs : List Int) : Prop where
  len : xs.length ≤ 9223372036854775807
  cell : ∀ k (h : k < xs.length), ∃ a, A = some a ∧ a.block < hi ∧ w.cell? (a.add k) = some (.int .i64 xs[k])
theorem Ints.below {w w' : World} {hi B : Nat} {A : Option Addr} {xs : List Int} (h : Ints w hi A xs) (hb : Below B w w') (hB : hi ≤ B) : Ints w' hi A xs :=
  ⟨h.len, fun k hk => by
    obtain ⟨a, rfl, b1, c⟩ := h.cell k hk
    exact ⟨a, rfl, b1, (hb.cell (by rw [ad_block]; omega)).trans c⟩⟩
/-- Where a tree's parts lie. -/
def Kids (w : World) (lo hi d : Nat) (A : Option Addr) (args : List Ex) : Prop := ∀ k (h : k < args.length), ∃ a x y z, A = some a ∧ lo ≤ a.block ∧ a.block < hi ∧ w.cell? (a.add (k * 3)) = some x ∧ w.cell? ⟨(a.add (k * 3)).block, (a.add (k * 3)).off + 1, none⟩ = some y ∧ w.cell? ⟨(a.add (k * 3)).block, (a.add (k * 3)).off + 2, none⟩ = some z ∧ At w lo hi d (.agg #[x, y, z]) args[k]
theorem Kids.below {w w' : World} {lo hi B d : Nat} {A : Option Addr} {args : List Ex} (h : Kids w lo hi d A args) (hb : Below B w w') (hB : hi ≤ B) : Kids w' lo hi d A args := fun k hk => by
  obtain ⟨a, x, y, z, rfl, b1, b2, c1, c2, c3, hr⟩ := h k hk
  exact ⟨a, x, y, z, rfl, b1, b2, (hb.cell (by rw [ad_block]; omega)).trans c1, (hb.cell (by show (a.add (k * 3)).block < B; rw [ad_block]; omega)).trans c2, (hb.cell (by show (a.add (k * 3)).block < B; rw [ad_block]; omega)).trans c3, hr.below hb hB⟩
/-- The same, of whatever blocks. -/
def AtS (w : World) (S : Nat → Prop) : Nat → Value → Ex → Prop
  | 0, _, _ => False
  | d + 1, v, .node op n args => op < 256 ∧ -9223372036854775808 ≤ n ∧ n < 9223372036854775808 ∧ args.length ≤ 9223372036854775807 ∧ ∃ A c, v = .agg #[.int .u8 op, .int .i64 n, .slice A args.length c] ∧
      ∀ k (h : k < args.length), ∃ a x y z, A = some a ∧ S a.block ∧ w.cell? (a.add (k * 3)) = some x ∧ w.cell? ⟨(a.add (k * 3)).block, (a.add (k * 3)).off + 1, none⟩ = some y ∧ w.cell? ⟨(a.add (k * 3)).block, (a.add (k * 3)).off + 2, none⟩ = some z ∧ AtS w S d (.agg #[x, y, z]) args[k]
theorem AtS.keep {w w' : World} {S S' : Nat → Prop} (hS : ∀ b, S b → S' b) (hk : ∀ p : Addr, S p.block → w'.cell? p = w.cell? p) : ∀ (d : Nat) {v : Value} {e : Ex}, AtS w S d v e → AtS w' S' d v e := by
  intro d
  induction d with
  | zero => intro v e h; exact h
  | succ d ih =>
    intro v e h
    obtain ⟨op, n, args⟩ := e
    obtain ⟨h1, h2, h3, h4, A, c, rfl, hc⟩ := h
    refine ⟨h1, h2, h3, h4, A, c, rfl, fun k hk' => ?_⟩
    obtain ⟨a, x, y, z, rfl, b1, c1, c2, c3, hr⟩ := hc k hk'
    refine ⟨a, x, y, z, rfl, hS _ b1, ?_, ?_, ?_, ih hr⟩
    · rw [hk _ (by rw [ad_block]; exact b1)]; exact c1
    · rw [hk _ (by show S (a.add (k * 3)).block; rw [ad_block]; exact b1)]; exact c2
    · rw [hk _ (by show S (a.add (k * 3)).block; rw [ad_block]; exact b1)]; exact c3
theorem At.toS {w : World} {lo hi : Nat} : ∀ (d : Nat) {v : Value} {e : Ex}, At w lo hi d v e → AtS w (fun b => lo ≤ b ∧ b < hi) d v e := by
  intro d
  induction d with
  | zero => intro v e h; exact h
  | succ d ih =>
    intro v e h
    obtain ⟨op, n, args⟩ := e
    obtain ⟨h1, h2, h3, h4, A, c, rfl, hc⟩ := h
    refine ⟨h1, h2, h3, h4, A, c, rfl, fun k hk' => ?_⟩
    obtain ⟨a, x, y, z, rfl, b1, b2, c1, c2, c3, hr⟩ := hc k hk'
    exact ⟨a, x, y, z, rfl, ⟨b1, b2⟩, c1, c2, c3, ih hr⟩
theorem AtS.toAt {w : World} {lo hi : Nat} {S : Nat → Prop} (hS : ∀ b, S b → lo ≤ b ∧ b < hi) : ∀ (d : Nat) {v : Value} {e : Ex}, AtS w S d v e → At w lo hi d v e := by
  intro d
  induction d with
  | zero => intro v e h; exact h
  | succ d ih =>
    intro v e h
    obtain ⟨op, n, args⟩ := e
    obtain ⟨h1, h2, h3, h4, A, c, rfl, hc⟩ := h
    refine ⟨h1, h2, h3, h4, A, c, rfl, fun k hk' => ?_⟩
    obtain ⟨a, x, y, z, rfl, b1, c1, c2, c3, hr⟩ := hc k hk'
    exact ⟨a, x, y, z, rfl, (hS _ b1).1, (hS _ b1).2, c1, c2, c3, ih hr⟩
/-- The cells of a tree at p. -/
structure Three (w : World) (p : Addr) (x y z : Value) : Prop where
  c0 : w.cell? p = some x
  c1 : w.cell? ⟨p.block, p.off + 1, none⟩ = some y
  c2 : w.cell? ⟨p.block, p.off + 2, none⟩ = some z
theorem Three.below {w w' : World} {B : Nat} {p : Addr} {x y z : Value} (h : Three w p x y z) (hb : Below B w w') (hp : p.block < B) : Three w' p x y z :=
  ⟨(hb.cell hp).trans h.c0, (hb.cell (p := ⟨p.block, _, none⟩) hp).trans h.c1, (hb.cell (p := ⟨p.block, _, none⟩) hp).trans h.c2⟩
/-- Of two parts. -/
theorem Kids.two {w : World} {lo hi d : Nat} {A : Option Addr} {e f : Ex} (h : Kids w lo hi d A [e, f]) : ∃ a x y z x' y' z', A = some a ∧ a.block < hi ∧ (a.add 3).block < hi ∧ Three w a x y z ∧ Three w (a.add 3) x' y' z' ∧ At w lo hi d (.agg #[x, y, z]) e ∧ At w lo hi d (.agg #[x', y', z']) f := by
  obtain ⟨a, x, y, z, rfl, m1, m2, g0, g1, g2, hA⟩ := h 0 (by simp)
  obtain ⟨a', x', y', z', he, m1', m2', g0', g1', g2', hA'⟩ := h 1 (by simp)
  cases he
  exact ⟨a, x, y, z, x', y', z', rfl, m2, by rw [ad_block]; exact m2, ⟨g0, g1, g2⟩, ⟨g0', g1', g2'⟩, hA, hA'⟩
theorem At.open_ {w : World} {lo hi d : Nat} {v : Value} {op : Nat} {n : Int} {args : List Ex} (h : At w lo hi (d + 1) v (.node op n args)) :
    op < 256 ∧ -9223372036854775808 ≤ n ∧ n < 9223372036854775808 ∧ args.length ≤ 9223372036854775807 ∧ ∃ A c, v = .agg #[.int .u8 op, .int .i64 n, .slice A args.length c] ∧ Kids w lo hi d A args := h
theorem sameF_refl {w : World} {lo hi : Nat} : ∀ (d : Nat) {v : Value} {e : Ex}, At w lo hi d v e → sameF d e e = true := by
  intro d
  induction d with
  | zero => intro v e h; exact h.elim
  | succ d ih =>
    intro v e h
    obtain ⟨op, n, args⟩ := e
    obtain ⟨h1, h2, h3, h4, A, c, rfl, hc⟩ := h
    rw [sameF, decide_eq_true (rfl : op = op), decide_eq_true (rfl : n = n), sameL_refl]
    · rfl
    · intro e he
      obtain ⟨k, hk, rfl⟩ := List.getElem_of_mem he
      obtain ⟨a, x, y, z, rfl, b1, b2, c1, c2, c3, hr⟩ := hc k hk
      exact ih hr
end Go.Proofs.Ytokhcogmoleocaa
