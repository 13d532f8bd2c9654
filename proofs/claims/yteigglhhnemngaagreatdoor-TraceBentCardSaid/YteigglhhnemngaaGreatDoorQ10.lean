/-
  SEVERAL TEXTS IN ONE (a claim has sixty files at most): Rw, Sc: the head of each stands ahead of it. No condition but theirs.
-/
import Derived.Test.YteigglhhnemngaaGreatDoorQ07
import Derived.Test.YteigglhhnemngaaGreatDoorQ08
namespace Go.Proofs.YteigglhhnemngaaGreatDoor
set_option maxRecDepth 100000
open Go.RowKit
set_option linter.unusedVariables false
section
variable {a : Act} {w : World} {K : Act → World → Prop} {Q : Exit → Act → World → Prop} {o : Oper}
theorem v_moveS (x : Nat) {v : Value} (ho : o.op = .move (.tmp x)) (hx : a.tmps[x]?.getD undef = v) (hK : K (a.put o.dst (v)) w) : Oper.wp Tryz.prog o a w K Q := by
  obtain ⟨dst, op, type, pos, after, guard⟩ := o
  have ho' : op = _ := ho
  subst ho'
  clear ho
  go_simp
  exact hK
theorem v_assignS (x : Nat) {v : Value} (ho : o.op = .assign (.tmp x)) (hx : a.tmps[x]?.getD undef = v) (hK : K (a.put o.dst (v)) w) : Oper.wp Tryz.prog o a w K Q := by
  obtain ⟨dst, op, type, pos, after, guard⟩ := o
  have ho' : op = _ := ho
  subst ho'
  clear ho
  go_simp
  exact hK
theorem v_eqlb (x y : Nat) {n m : Bool} (ho : o.op = .binOp .eql 4 (.tmp x) (.tmp y) 4) (hx : a.tmps[x]?.getD undef = .bool n) (hy : a.tmps[y]?.getD undef = .bool m) {r : Bool} (hr : (n == m) = r) (hK : K (a.put o.dst (.bool r)) w) : Oper.wp Tryz.prog o a w K Q := by
  obtain ⟨dst, op, type, pos, after, guard⟩ := o
  have ho' : op = _ := ho
  subst ho'
  clear ho
  subst hr
  go_simp
  exact hK
theorem v_eqls (x y : Nat) {n m : ByteArray} (ho : o.op = .binOp .eql 9 (.tmp x) (.tmp y) 9) (hx : a.tmps[x]?.getD undef = .string n) (hy : a.tmps[y]?.getD undef = .string m) {r : Bool} (hr : (n.toList == m.toList) = r) (hK : K (a.put o.dst (.bool r)) w) : Oper.wp Tryz.prog o a w K Q := by
  obtain ⟨dst, op, type, pos, after, guard⟩ := o
  have ho' : op = _ := ho
  subst ho'
  clear ho
  subst hr
  go_simp
  exact hK
theorem v_orT (x y : Nat) (ho : o.op = .pick (.tmp x) (.const (.bool true)) (.tmp y)) (hx : a.tmps[x]?.getD undef = .bool true) (hK : K (a.put o.dst (.bool true)) w) : Oper.wp Tryz.prog o a w K Q := by
  obtain ⟨dst, op, type, pos, after, guard⟩ := o
  have ho' : op = _ := ho
  subst ho'
  clear ho
  go_simp
  exact hK
theorem v_orF (x y : Nat) {v : Value} (ho : o.op = .pick (.tmp x) (.const (.bool true)) (.tmp y)) (hx : a.tmps[x]?.getD undef = .bool false) (hy : a.tmps[y]?.getD undef = v) (hK : K (a.put o.dst (v)) w) : Oper.wp Tryz.prog o a w K Q := by
  obtain ⟨dst, op, type, pos, after, guard⟩ := o
  have ho' : op = _ := ho
  subst ho'
  clear ho
  go_simp
  exact hK
theorem v_andT (x y : Nat) {v : Value} (ho : o.op = .pick (.tmp x) (.tmp y) (.const (.bool false))) (hx : a.tmps[x]?.getD undef = .bool true) (hy : a.tmps[y]?.getD undef = v) (hK : K (a.put o.dst (v)) w) : Oper.wp Tryz.prog o a w K Q := by
  obtain ⟨dst, op, type, pos, after, guard⟩ := o
  have ho' : op = _ := ho
  subst ho'
  clear ho
  go_simp
  exact hK
theorem v_loadE (x : Nat) {g : Nat} {cs : Array Value} (ho : o.op = .load 50 (.tmp x)) (hx : a.tmps[x]?.getD undef = .pointer (some ⟨g, 0, none⟩)) (hg : w.heap[g]? = some (.cells cs 50 (0, 0))) (hs : cs.size = 7) (hK : K (a.put o.dst (.agg cs)) w) : Oper.wp Tryz.prog o a w K Q :=
  wp_load_row _ _ ho g (by simpa [Act.eval, Array.getD_eq_getD_getElem?] using hx) 50 cs (0, 0) _ hg Tryz.underlying50 rfl (by rw [hs]; kernel_rfl) hK
end
end Go.Proofs.YteigglhhnemngaaGreatDoor
namespace Go.Proofs.YteigglhhnemngaaGreatDoor
set_option maxRecDepth 100000
set_option linter.unusedVariables false
structure PS where
  came : Int
  clk : Int
  own : Nat → Int
  ver : Nat → Int
  wh : Nat → Int
  com : Nat → Int
  rv : Nat → Int
  wv : Nat → Int
  pos : Nat → Int
  seen : Nat → Int
  rd : Nat → Nat → Bool
  st : Nat → Nat → Bool
  last : Nat → Int
def upN {α : Type} (f : Nat → α) (k : Nat) (v : α) : Nat → α := fun i => if i = k then v else f i
theorem upN_same {α : Type} (f : Nat → α) (k : Nat) (v : α) : upN f k v k = v := by simp [upN]
theorem upN_other {α : Type} {f : Nat → α} {k i : Nat} {v : α} (h : i ≠ k) : upN f k v i = f i := by simp [upN, h]
def ps0 : PS := ⟨0, 0, fun _ => -1, fun _ => 0, fun _ => 0, fun _ => 0, fun _ => 0, fun _ => 0, fun _ => 0, fun _ => 0, fun _ _ => false, fun _ _ => false, fun _ => 0⟩
def findN (f : Nat → Bool) : Int := match (List.range 32).find? f with
  | some s => (s : Nat)
  | none => -1
def leastP (p : PS) (who : Int) : Int := findN fun s => decide (p.own s = who)
def nextP (p : PS) (t : Nat) : Int := findN fun s => decide (p.last t < s) && p.rd t s
def allP (p : PS) (t : Nat) (who : Int) : Bool := (List.range 32).all fun s => !(decide (p.own s = who) && !(p.st t s))
def stillP (p : PS) (t : Nat) : Bool := decide (p.own (p.pos t).toNat = -1) && decide (p.ver (p.pos t).toNat = p.seen t)
def othersP (p : PS) (s : Nat) (who : Int) : Bool := decide (p.own s ≠ -1) && decide (p.own s ≠ who)
def oldP (p : PS) (t s : Nat) (who : Int) : Bool := othersP p s who || decide (p.rv t < p.ver s)
def goP (p : PS) (t : Nat) (wh : Int) : PS := { p with wh := upN p.wh t wh }
def beginPS (p : PS) (t s : Nat) (e : Ev) : Option PS :=
  if e.tx ≠ p.com t ∨ e.v < p.clk then none else
  some { p with clk := e.v, wh := upN p.wh t 1, rv := upN p.rv t e.v, wv := upN p.wv t 0, pos := upN p.pos t 0, seen := upN p.seen t 0, rd := upN p.rd t (fun _ => false), st := upN p.st t (fun _ => false), last := upN p.last t (-1) }
def lookPS (p : PS) (t s : Nat) (e : Ev) : Option PS :=
  if p.own s ≠ -1 ∨ e.v < p.ver s ∨ p.rv t < e.v then none else
  some { p with ver := upN p.ver s e.v, wh := upN p.wh t 2, pos := upN p.pos t s, seen := upN p.seen t e.v }
def loadP (p : PS) (t s : Nat) (e : Ev) : Option PS :=
  if (s : Int) ≠ p.pos t ∨ stillP p t = false then none else
  some { p with wh := upN p.wh t 1, rd := upN p.rd t (upN (p.rd t) s true) }
def lockP (p : PS) (t s : Nat) (e : Ev) : Option PS :=
  if (s : Int) ≤ p.last t ∨ p.own s ≠ -1 then none else
  some { p with own := upN p.own s e.th, wh := upN p.wh t 3, last := upN p.last t s }
def bumpPS (p : PS) (t s : Nat) (e : Ev) : Option PS :=
  if e.v ≤ p.clk then none else
  some { p with clk := e.v, wh := upN p.wh t 4, wv := upN p.wv t e.v, last := upN p.last t (-1), rd := if e.v = p.rv t + 1 then upN p.rd t (fun _ => false) else p.rd }
def checkP (p : PS) (t s : Nat) (e : Ev) : Option PS :=
  if (s : Int) ≠ nextP p t ∨ oldP p t s e.th = true then none else some { p with last := upN p.last t s }
def restP (p : PS) (t s : Nat) (e : Ev) : Option PS :=
  if e.v ≠ 0 then none else some { p with com := upN p.com t (p.com t + 1), wh := upN p.wh t 0 }
def commitPS (p : PS) (t s : Nat) (e : Ev) : Option PS :=
  if nextP p t ≠ -1 ∨ e.v ≠ p.wv t then none else some { p with last := upN p.last t (-1), wh := upN p.wh t 5 }
def storeP (p : PS) (t s : Nat) (e : Ev) : Option PS :=
  if e.pl ≤ p.last t ∨ p.own s ≠ e.th then none else some { p with last := upN p.last t e.pl, st := upN p.st t (upN (p.st t) s true) }
def letP (p : PS) (s : Nat) (v : Int) : PS := { p with own := upN p.own s (-1), ver := upN p.ver s v }
def freeP (p : PS) (t s : Nat) (e : Ev) : Option PS :=
  if allP p t e.th = false ∨ (s : Int) ≠ leastP p e.th then none else
  if leastP (letP p s (p.wv t)) e.th ≠ -1 then some (goP (letP p s (p.wv t)) t 6) else
  some (goP { letP p s (p.wv t) with com := upN p.com t (p.com t + 1) } t 0)
def undoP (p : PS) (t s : Nat) (e : Ev) : Option PS :=
  if (s : Int) ≠ leastP p e.th then none else
  if leastP { p with own := upN p.own s (-1) } e.th ≠ -1 then some { p with own := upN p.own s (-1) } else
  some (goP { p with own := upN p.own s (-1) } t (if p.wh t = 8 then 10 else 0))
def heldP (p : PS) (t s : Nat) (e : Ev) : Option PS := if othersP p s e.th = true then some (goP p t 0) else none
def newerP (p : PS) (t s : Nat) (e : Ev) : Option PS := if p.own s = -1 ∧ p.rv t < p.ver s then some (goP p t 0) else none
def movedP (p : PS) (t s : Nat) (e : Ev) : Option PS := if (s : Int) = p.pos t ∧ stillP p t = false then some (goP p t 0) else none
def busyP (p : PS) (t s : Nat) (e : Ev) : Option PS :=
  if (s : Int) ≤ p.last t ∨ othersP p s e.th = false then none else
  some (goP p t (if leastP p e.th = -1 then 0 else 7))
def fullP (p : PS) (t s : Nat) (e : Ev) : Option PS := some (goP p t 8)
def staleP (p : PS) (t s : Nat) (e : Ev) : Option PS := if (s : Int) = nextP p t ∧ oldP p t s e.th = true then some (goP p t 7) else none
def waitP (p : PS) (t s : Nat) (e : Ev) : Option PS := some (goP p t 9)
def wakeB (p : PS) (t : Nat) : Bool := (List.range 32).any fun s => p.rd t s && decide (p.own s = -1) && decide (p.rv t < p.ver s)
def wakeP (p : PS) (t s : Nat) (e : Ev) : Option PS := if wakeB p t = true then some (goP p t 0) else none
def noP (p : PS) (t s : Nat) (e : Ev) : Option PS := none
def tabS (wh k : Nat) : PS → Nat → Nat → Ev → Option PS :=
  match wh, k with
  | 0, 1 => beginPS
  | 1, 2 => lookPS
  | 1, 4 => lockP
  | 1, 7 => restP
  | 1, 12 => waitP
  | 1, 14 => heldP
  | 1, 15 => newerP
  | 1, 17 => busyP
  | 2, 3 => loadP
  | 2, 16 => movedP
  | 3, 4 => lockP
  | 3, 5 => bumpPS
  | 3, 17 => busyP
  | 3, 19 => fullP
  | 4, 6 => checkP
  | 4, 7 => commitPS
  | 4, 18 => staleP
  | 5, 8 => storeP
  | 5, 9 => freeP
  | 6, 9 => freeP
  | 7, 11 => undoP
  | 8, 11 => undoP
  | 9, 13 => wakeP
  | _, _ => noP
def kindX (e : Ev) : Nat := if e.kd = 10 then 13 + e.why.toNat else e.kd.toNat
def strX (S : Int) (e : Ev) : Nat := if e.kd = 3 ∨ e.kd = 8 then (e.pl % S).toNat else if e.kd = 2 ∨ e.kd = 4 ∨ e.kd = 6 ∨ e.kd = 9 ∨ e.kd = 11 ∨ (e.kd = 10 ∧ e.why ≠ 6) then e.pl.toNat else 0
def stepP (S : Int) (p : PS) (e : Ev) : Option PS := tabS (p.wh e.th.toNat).toNat (kindX e) p e.th.toNat (strX S e) e
end Go.Proofs.YteigglhhnemngaaGreatDoor
namespace Go.Proofs.YteigglhhnemngaaGreatDoor
set_option maxRecDepth 100000
set_option linter.unusedVariables false
set_option linter.unusedSimpArgs false
def whereA (a : Att) : Int :=
  if a.last = 0 ∨ a.last = 13 then 0 else
  if a.last = 1 ∨ a.last = 3 then 1 else
  if a.last = 2 then 2 else
  if a.last = 4 then 3 else
  if a.last = 5 ∨ a.last = 6 then 4 else
  if a.last = 7 then (if a.lk.length = 0 then 0 else 5) else
  if a.last = 8 then 5 else
  if a.last = 9 then (if a.fd = a.lk.length then 0 else 6) else
  if a.last = 10 then (if a.lk.length = 0 then 0 else if a.why = 6 then 8 else 7) else
  if a.last = 11 then (if a.fd = a.lk.length then (if a.why = 6 then 10 else 0) else if a.why = 6 then 8 else 7) else 9
def leftP (p : PS) (t : Nat) : List Int := ((List.range 32).filter fun s : Nat => decide (p.last t < (s : Int)) && p.rd t s).map fun n : Nat => (n : Int)
structure RelT (S : Int) (p : PS) (t : Nat) (a : Att) (cm : Int) : Prop where
  wh : p.wh t = whereA a
  com : p.com t = cm
  rv : (1 ≤ a.last ∧ a.last ≤ 6) ∨ a.last = 12 → p.rv t = a.rv
  rd : (1 ≤ a.last ∧ a.last ≤ 4) ∨ a.last = 12 → ∀ s : Nat, s < 32 → p.rd t s = decide ((s : Int) ∈ a.rd)
  pos : a.last = 2 → p.pos t = a.lp ∧ p.seen t = a.lv
  l1 : 1 ≤ a.last ∧ a.last ≤ 4 → p.last t = lastL a.lk
  ck : a.last = 5 ∨ a.last = 6 → leftA a = leftP p t
  wv : 1 ≤ a.last ∧ a.last ≤ 9 → p.wv t = a.wv
  wv1 : a.last = 5 ∨ a.last = 6 → 1 ≤ a.wv
  l7 : a.last = 7 ∨ a.last = 8 → p.last t = lastL a.st
  st : 1 ≤ a.last ∧ a.last ≤ 9 → ∀ s : Nat, s < 32 → p.st t s = decide (∃ x ∈ a.st, x % S = s)
  ck0 : 1 ≤ a.last ∧ a.last ≤ 4 → a.ck = 0
  rinc : a.rd.Pairwise (· < ·)
  rpos : ∀ x ∈ a.rd, 0 ≤ x ∧ x < S
  why : a.why = 6 → a.last = 10 ∨ a.last = 11
  why2 : a.last = 10 → a.lk = [] → a.why ≠ 6
structure Rel (S T : Int) (p : PS) (q : Sh) : Prop where
  t : ∀ t : Nat, (t : Int) < T → RelT S p t (q.att t) (q.com t)
  own : ∀ s : Nat, s < 32 → p.own s = q.own s
  ver : ∀ s : Nat, s < 32 → p.ver s = q.ver s
  clk : p.clk = q.clk
theorem rel0 (S T : Int) : Rel S T ps0 sh0 where
  t := fun t ht => by
    constructor <;> simp [ps0, sh0, att0, whereA]
  own := fun s _ => rfl
  ver := fun s _ => rfl
  clk := rfl
section
variable {a : Att}
theorem wh_reads (hr : 0 ≤ a.last ∧ a.last ≤ 13) : whereA a = 1 ↔ readsA a := by
  unfold whereA readsA
  repeat' split
  all_goals omega
theorem wh_looked (hr : 0 ≤ a.last ∧ a.last ≤ 13) : whereA a = 2 ↔ a.last = 2 := by
  unfold whereA
  repeat' split
  all_goals omega
theorem wh_locks (hr : 0 ≤ a.last ∧ a.last ≤ 13) : whereA a = 3 ↔ a.last = 4 := by
  unfold whereA
  repeat' split
  all_goals omega
theorem wh_checks (hr : 0 ≤ a.last ∧ a.last ≤ 13) : whereA a = 4 ↔ checksA a := by
  unfold whereA checksA
  repeat' split
  all_goals omega
theorem wh_stores (hr : 0 ≤ a.last ∧ a.last ≤ 13) : whereA a = 5 ↔ (a.last = 7 ∧ a.lk.length ≠ 0) ∨ a.last = 8 := by
  unfold whereA
  repeat' split
  all_goals omega
theorem wh_frees (hr : 0 ≤ a.last ∧ a.last ≤ 13) : whereA a = 6 ↔ a.last = 9 ∧ a.fd ≠ a.lk.length := by
  unfold whereA
  repeat' split
  all_goals omega
theorem wh_undoes (hr : 0 ≤ a.last ∧ a.last ≤ 13) : whereA a = 7 ∨ whereA a = 8 ↔ (a.last = 10 ∧ a.lk.length ≠ 0) ∨ (a.last = 11 ∧ a.fd ≠ a.lk.length) := by
  unfold whereA
  repeat' split
  all_goals omega
theorem wh_quits (hr : 0 ≤ a.last ∧ a.last ≤ 13) (hw : a.why = 6 → a.last = 10 ∨ a.last = 11) (h : whereA a = 7 ∨ whereA a = 8) : whereA a = 8 ↔ a.why = 6 := by
  revert h
  unfold whereA
  repeat' split
  all_goals omega
theorem wh_waits (hr : 0 ≤ a.last ∧ a.last ≤ 13) : whereA a = 9 ↔ a.last = 12 := by
  unfold whereA
  repeat' split
  all_goals omega
theorem wh_between (hr : 0 ≤ a.last ∧ a.last ≤ 13) (hw : a.why = 6 → a.last = 10 ∨ a.last = 11) (hw2 : a.last = 10 → a.lk = [] → a.why ≠ 6) : whereA a = 0 ↔ overA a = true ∧ a.why ≠ 6 := by
  have h2 : a.last = 10 → a.lk.length = 0 → a.why ≠ 6 := fun h1 h2 => hw2 h1 (List.length_eq_zero_iff.1 h2)
  clear hw2
  obtain ⟨n, hn⟩ : ∃ n, n = a.lk.length := ⟨_, rfl⟩
  unfold whereA overA
  rw [← hn] at h2 ⊢
  generalize a.last = l at *
  generalize a.why = y at *
  generalize a.fd = f at *
  have hl : l = 0 ∨ l = 1 ∨ l = 2 ∨ l = 3 ∨ l = 4 ∨ l = 5 ∨ l = 6 ∨ l = 7 ∨ l = 8 ∨ l = 9 ∨ l = 10 ∨ l = 11 ∨ l = 12 ∨ l = 13 := by omega
  by_cases h6 : y = 6
  · by_cases h0 : n = 0 <;> by_cases h1 : f = n <;> rcases hl with h | h | h | h | h | h | h | h | h | h | h | h | h | h <;> subst h <;> simp_all
  · by_cases h0 : n = 0 <;> by_cases h1 : f = n <;> rcases hl with h | h | h | h | h | h | h | h | h | h | h | h | h | h <;> subst h <;> simp_all
theorem over_wh (hr : 0 ≤ a.last ∧ a.last ≤ 13) : overA a = true ↔ whereA a = 0 ∨ whereA a = 10 := by
  obtain ⟨n, hn⟩ : ∃ n, n = a.lk.length := ⟨_, rfl⟩
  unfold whereA overA
  rw [← hn]
  generalize a.last = l at *
  generalize a.why = y at *
  generalize a.fd = f at *
  have hl : l = 0 ∨ l = 1 ∨ l = 2 ∨ l = 3 ∨ l = 4 ∨ l = 5 ∨ l = 6 ∨ l = 7 ∨ l = 8 ∨ l = 9 ∨ l = 10 ∨ l = 11 ∨ l = 12 ∨ l = 13 := by omega
  by_cases h6 : y = 6 <;> by_cases h0 : n = 0 <;> by_cases h1 : f = n <;> rcases hl with h | h | h | h | h | h | h | h | h | h | h | h | h | h <;> subst h <;> simp_all
theorem wh_range : 0 ≤ whereA a ∧ whereA a ≤ 10 := by
  unfold whereA
  repeat' split
  all_goals omega
end
theorem findN_none {f : Nat → Bool} (h : ∀ s, s < 32 → f s = false) : findN f = -1 := by
  unfold findN
  have : (List.range 32).find? f = none := by
    rw [List.find?_eq_none]
    intro x hx
    rw [h x (List.mem_range.1 hx)]
    decide
  rw [this]
theorem findN_some {f : Nat → Bool} {s : Nat} (hs : s < 32) (h : f s = true) (hl : ∀ j, j < s → f j = false) : findN f = s := by
  unfold findN
  have : (List.range 32).find? f = some s := by
    rw [List.find?_range_eq_some]
    exact ⟨h, List.mem_range.2 hs, fun j hj => by rw [hl j hj]; rfl⟩
  rw [this]
theorem findN_cases (f : Nat → Bool) : (findN f = -1 ∧ ∀ s, s < 32 → f s = false) ∨ ∃ s : Nat, s < 32 ∧ findN f = s ∧ f s = true ∧ ∀ j, j < s → f j = false := by
  unfold findN
  cases h : (List.range 32).find? f with
  | none =>
    refine .inl ⟨rfl, fun s hs => ?_⟩
    have := List.find?_eq_none.1 h s (List.mem_range.2 hs)
    simpa using this
  | some s =>
    rw [List.find?_range_eq_some] at h
    exact .inr ⟨s, List.mem_range.1 h.2.1, rfl, h.1, fun j hj => by simpa using h.2.2 j hj⟩
end Go.Proofs.YteigglhhnemngaaGreatDoor
namespace Go.Proofs.YteigglhhnemngaaGreatDoor
set_option maxRecDepth 100000
set_option linter.unusedVariables false
set_option linter.unusedSimpArgs false
theorem sorted_ext {A B : List Int} (hA : A.Pairwise (· < ·)) (hB : B.Pairwise (· < ·)) (h : ∀ x, x ∈ A ↔ x ∈ B) : A = B := by
  induction A generalizing B with
  | nil =>
    cases B with
    | nil => rfl
    | cons b B => exact absurd ((h b).2 (by simp)) (by simp)
  | cons a A ih =>
    cases B with
    | nil => exact absurd ((h a).1 (by simp)) (by simp)
    | cons b B =>
      rw [List.pairwise_cons] at hA hB
      have hab : a = b := by
        rcases List.mem_cons.1 ((h a).1 (by simp)) with h1 | h1
        · exact h1
        · rcases List.mem_cons.1 ((h b).2 (by simp)) with h2 | h2
          · exact h2.symm
          · have := hB.1 a h1
            have := hA.1 b h2
            omega
      subst hab
      congr 1
      refine ih hA.2 hB.2 fun x => ?_
      have hx := h x
      rw [List.mem_cons, List.mem_cons] at hx
      constructor
      · intro hm
        rcases hx.1 (.inr hm) with h1 | h1
        · have := hA.1 x hm
          omega
        · exact h1
      · intro hm
        rcases hx.2 (.inr hm) with h1 | h1
        · have := hB.1 x hm
          omega
        · exact h1
theorem range_lt (n : Nat) : (List.range n).Pairwise (· < ·) := List.pairwise_lt_range
theorem filt_inc (f : Nat → Bool) : (((List.range 32).filter f).map fun n : Nat => (n : Int)).Pairwise (· < ·) := by
  rw [List.pairwise_map]
  exact ((range_lt 32).filter f).imp fun h => by omega
theorem filt_mem (f : Nat → Bool) (x : Int) : x ∈ (((List.range 32).filter f).map fun n : Nat => (n : Int)) ↔ ∃ n : Nat, n < 32 ∧ f n = true ∧ (n : Int) = x := by
  rw [List.mem_map]
  constructor
  · rintro ⟨n, h1, h2⟩
    rw [List.mem_filter, List.mem_range] at h1
    exact ⟨n, h1.1, h1.2, h2⟩
  · rintro ⟨n, h1, h2, h3⟩
    exact ⟨n, List.mem_filter.2 ⟨List.mem_range.2 h1, h2⟩, h3⟩
theorem next_nil {p : PS} {t : Nat} : nextP p t = -1 ↔ leftP p t = [] := by
  unfold nextP leftP
  rcases findN_cases (fun s : Nat => decide (p.last t < (s : Int)) && p.rd t s) with ⟨h1, h2⟩ | ⟨s, hs, h1, h2, h3⟩
  · rw [h1]
    simp only [true_iff]
    rw [List.map_eq_nil_iff, List.filter_eq_nil_iff]
    intro a ha
    rw [h2 a (List.mem_range.1 ha)]
    decide
  · rw [h1]
    constructor
    · intro h
      omega
    · intro h
      have : (s : Int) ∈ ([] : List Int) := by
        rw [← h, filt_mem]
        exact ⟨s, hs, h2, rfl⟩
      cases this
theorem next_some {p : PS} {t s : Nat} : nextP p t = (s : Int) ↔ (leftP p t).head? = some (s : Int) := by
  unfold nextP leftP findN
  rw [List.head?_map, List.head?_filter]
  cases (List.range 32).find? (fun s : Nat => decide (p.last t < (s : Int)) && p.rd t s) with
  | none =>
    simp
  | some x => simp
theorem left_next {p p' : PS} {t s : Nat} {r : List Int} (h : leftP p t = (s : Int) :: r) (hl : p'.last t = s) (hr : ∀ n, p'.rd t n = p.rd t n) : leftP p' t = r := by
  have hi := filt_inc (fun s : Nat => decide (p.last t < (s : Int)) && p.rd t s)
  have hm := filt_mem (fun s : Nat => decide (p.last t < (s : Int)) && p.rd t s)
  have h0 : (((List.range 32).filter (fun s : Nat => decide (p.last t < (s : Int)) && p.rd t s)).map fun n : Nat => (n : Int)) = (s : Int) :: r := h
  rw [h0] at hi hm
  rw [List.pairwise_cons] at hi
  unfold leftP
  refine sorted_ext (filt_inc _) hi.2 fun x => ?_
  rw [filt_mem]
  simp only [hl, hr, Bool.and_eq_true, decide_eq_true_eq]
  constructor
  · rintro ⟨n, h1, ⟨h2, h3⟩, rfl⟩
    have hs : p.last t < (s : Int) := by
      obtain ⟨m, _, h5, h6⟩ := (hm s).1 (by simp)
      simp at h5
      omega
    rcases List.mem_cons.1 ((hm n).2 ⟨n, h1, by simp [h3]; omega, rfl⟩) with h4 | h4
    · omega
    · exact h4
  · intro hx
    obtain ⟨n, h1, h2, rfl⟩ := (hm x).1 (by simp [hx])
    simp at h2
    exact ⟨n, h1, ⟨hi.1 _ hx, h2.2⟩, rfl⟩
theorem left_begin {S : Int} {p : PS} {t : Nat} {rd : List Int} (hl : p.last t = -1) (hr : ∀ s : Nat, s < 32 → p.rd t s = decide ((s : Int) ∈ rd)) (hi : rd.Pairwise (· < ·)) (hp : ∀ x ∈ rd, 0 ≤ x ∧ x < S) (hS : S ≤ 32) : leftP p t = rd := by
  unfold leftP
  refine sorted_ext (filt_inc _) hi fun x => ?_
  rw [filt_mem]
  simp only [hl, Bool.and_eq_true, decide_eq_true_eq]
  constructor
  · rintro ⟨n, h1, ⟨_, h3⟩, rfl⟩
    rw [hr n h1] at h3
    simpa using h3
  · intro hx
    have := hp x hx
    refine ⟨x.toNat, by omega, ⟨by omega, ?_⟩, by omega⟩
    rw [hr _ (by omega), show ((x.toNat : Nat) : Int) = x by omega]
    simpa using hx
theorem left_none {p : PS} {t : Nat} (hr : ∀ s : Nat, s < 32 → p.rd t s = false) : leftP p t = [] := by
  unfold leftP
  rw [List.map_eq_nil_iff, List.filter_eq_nil_iff]
  intro a ha
  rw [hr a (List.mem_range.1 ha)]
  simp
section
variable {S clk bm : Int} {own ver : Int → Int} {p : PS} {t : Nat} {a : Att}
theorem least_none (hA : TInv S own ver clk bm t a) (hS : S ≤ 32) (ho : ∀ s : Nat, s < 32 → p.own s = own s) : leastP p t = -1 ↔ a.fd = a.lk.length := by
  unfold leastP
  have hf := hA.fdl
  rcases findN_cases (fun s : Nat => decide (p.own s = (t : Int))) with ⟨h1, h2⟩ | ⟨s, hs, h1, h2, h3⟩
  · rw [h1]
    simp only [true_iff]
    rcases Nat.lt_or_ge a.fd a.lk.length with h | h
    · have hm := hA.mine a.fd _ (Nat.le_refl _) (List.getElem?_eq_getElem h)
      have hp := hA.lpos _ (List.getElem_mem h)
      generalize a.lk[a.fd] = s at *
      have h4 := h2 s.toNat (by omega)
      rw [ho _ (by omega), show ((s.toNat : Nat) : Int) = s by omega, hm] at h4
      simp at h4
    · omega
  · rw [h1]
    have h4 : own s = t := by
      rw [ho s hs] at h2
      simpa using h2
    obtain ⟨j, hj, hs2⟩ := hA.held _ h4
    have hl : j < a.lk.length := (List.getElem?_eq_some_iff.1 hs2).1
    constructor <;> intro h <;> omega
theorem least_some (hA : TInv S own ver clk bm t a) (hS : S ≤ 32) (ho : ∀ s : Nat, s < 32 → p.own s = own s) (s : Nat) (hs32 : s < 32) : (s : Int) = leastP p t ↔ a.lk[a.fd]? = some (s : Int) := by
  unfold leastP
  rcases findN_cases (fun s : Nat => decide (p.own s = (t : Int))) with ⟨h1, h2⟩ | ⟨k, hk, h1, h2, h3⟩
  · rw [h1]
    constructor
    · intro h
      omega
    · intro h
      have hm := hA.mine a.fd _ (Nat.le_refl _) h
      have h4 := h2 s hs32
      rw [ho s hs32, hm] at h4
      simp at h4
  · rw [h1]
    have h4 : own k = t := by
      rw [ho k hk] at h2
      simpa using h2
    obtain ⟨j, hj, hk2⟩ := hA.held _ h4
    have hl : j < a.lk.length := (List.getElem?_eq_some_iff.1 hk2).1
    have hx : a.lk[a.fd]? = some a.lk[a.fd] := List.getElem?_eq_getElem (by omega)
    have hm := hA.mine a.fd _ (Nat.le_refl _) hx
    have hp := hA.lpos _ (List.getElem_mem (show a.fd < a.lk.length by omega))
    have hle : a.lk[a.fd] ≤ (k : Int) := by
      rcases Nat.lt_or_ge a.fd j with h5 | h5
      · have h6 := (List.pairwise_iff_getElem.1 hA.inc) a.fd j (by omega) hl h5
        have h7 : a.lk[j] = (k : Int) := (List.getElem?_eq_some_iff.1 hk2).2
        omega
      · obtain rfl : j = a.fd := by omega
        have h7 : a.lk[a.fd] = (k : Int) := (List.getElem?_eq_some_iff.1 hk2).2
        omega
    have hge : (k : Int) ≤ a.lk[a.fd] := by
      generalize a.lk[a.fd] = z at *
      by_cases hz : z.toNat < k
      · have h5 := h3 z.toNat hz
        rw [ho _ (by omega), show ((z.toNat : Nat) : Int) = z by omega, hm] at h5
        simp at h5
      · omega
    rw [hx]
    constructor
    · intro h
      congr 1
      omega
    · intro h
      have := Option.some.inj h
      omega
theorem all_iff (ho : ∀ s : Nat, s < 32 → p.own s = own s) : allP p t t = true ↔ ∀ s : Nat, s < 32 → own s = t → p.st t s = true := by
  unfold allP
  rw [List.all_eq_true]
  constructor
  · intro h s hs hq
    have := h s (List.mem_range.2 hs)
    rw [ho s hs] at this
    simpa [hq] using this
  · intro h s hs
    have hs := List.mem_range.1 hs
    have := h s hs
    rw [ho s hs]
    by_cases hq : own s = t
    · simp [hq, this hq]
    · simp [hq]
theorem all_lk (hA : TInv S own ver clk bm t a) (hS : 1 ≤ S ∧ S ≤ 32) (ho : ∀ s : Nat, s < 32 → p.own s = own s) (hst : ∀ s : Nat, s < 32 → p.st t s = decide (∃ x ∈ a.st, x % S = s)) (hf : a.fd = 0) : allP p t t = true ↔ (storedA S a.st).length = a.lk.length := by
  rw [all_iff ho]
  constructor
  · intro h
    obtain ⟨h1, h2⟩ := stored_aux S a.st []
    have h3 : ∀ y, y ∈ storedA S a.st ↔ ∃ x ∈ a.st, x % S = y := fun y => by
      have := h2 y
      simpa [storedA] using this
    have e : storedA S a.st = a.lk := by
      refine sorted_ext (h1 (by simp)) hA.inc fun x => ?_
      rw [h3]
      constructor
      · rintro ⟨y, hy, rfl⟩
        exact hA.cov y hy
      · intro hx
        have hp := hA.lpos x hx
        obtain ⟨j, hj⟩ := List.mem_iff_getElem?.1 hx
        have h5 := h x.toNat (by omega) (by rw [show ((x.toNat : Nat) : Int) = x by omega]; exact hA.mine j x (by omega) hj)
        rw [hst _ (by omega), show ((x.toNat : Nat) : Int) = x by omega] at h5
        simpa using h5
    rw [e]
  · intro h s hs hq
    have h1 := stored_all hA.inc hA.cov h
    obtain ⟨j, _, hj⟩ := hA.held _ hq
    rw [hst s hs]
    simpa using h1 _ (List.mem_of_getElem? hj)
end
end Go.Proofs.YteigglhhnemngaaGreatDoor
