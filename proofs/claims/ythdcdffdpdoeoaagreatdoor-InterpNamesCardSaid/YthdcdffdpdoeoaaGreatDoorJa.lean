/-
  PLAIN LEAN (layer 9): a machine that does a transaction, as the chapter says it; what a run of it comes to. No condition.
-/
import Derived.Test.YthdcdffdpdoeoaaGreatDoorCm
import Derived.Test.YthdcdffdpdoeoaaGreatDoorEb
import Derived.Test.YthdcdffdpdoeoaaGreatDoorLa
namespace Go.Proofs.YthdcdffdpdoeoaaGreatDoor
set_option maxRecDepth 100000
set_option linter.unusedVariables false
/-- What is to be done: a statement, or the end of the Body of an OrElse: how locals and writes were ahead of it, and its Else. -/
inductive It where
  | st (s : St)
  | mark (l : List Int) (w : List Pr) (els : List St)
/-- A machine: locals, what was written (the last ones last), what is to be done, how many steps were. -/
structure PM where
  l : List Int
  w : List Pr
  k : List It
  n : Nat
def bareI : List It → List It
  | .mark _ _ _ :: r => bareI r
  | k => k
def markI : List It → Option (List Int × List Pr × List St × List It)
  | [] => none
  | .mark l w e :: r => some (l, w, e, r)
  | .st _ :: r => markI r
def itemsI (l : List St) (k : List It) : List It := l.map It.st ++ k
def timesI : Nat → List St → List It → List It
  | 0, _, k => k
  | n + 1, l, k => itemsI l (timesI n l k)
section
variable (vars : Int) (got : List Int)
def valI (m : PM) (e : Ex) : Int := (evalF e m.l got).1
def varI (m : PM) (e : Ex) : Int := (varF (valI got m e) vars).1
/-- What it asks for: kind, variable, value. -/
def nextI (m : PM) : Nat × Int × Int :=
  match bareI m.k with
  | [] => (3, 0, 0)
  | .mark _ _ _ :: _ => (3, 0, 0)
  | .st s :: r =>
    if s.kind = 8 then (3, 0, valI got m s.a)
    else if s.kind = 6 then (match markI r with | none => (4, 0, 0) | some _ => (1, 0, 0))
    else if s.kind = 2 then (match rowSays m.w (varI vars got m s.a) with | none => (2, varI vars got m s.a, 0) | some _ => (1, 0, 0))
    else (1, 0, 0)
def stepI (m : PM) : PM :=
  match bareI m.k with
  | [] => m
  | .mark _ _ _ :: _ => m
  | .st s :: r =>
    match s.kind with
    | 1 => { m with l := m.l.set s.to.toNat (valI got m s.a), k := r, n := m.n + 1 }
    | 2 => { m with l := m.l.set s.to.toNat ((rowSays m.w (varI vars got m s.a)).getD 0), k := r, n := m.n + 1 }
    | 3 => { m with w := m.w ++ [(varI vars got m s.a, valI got m s.b)], k := r, n := m.n + 1 }
    | 4 => { m with k := itemsI (if valI got m s.a = 0 then s.els else s.body) r, n := m.n + 1 }
    | 5 => { m with k := timesI (min (valI got m s.a) 8).toNat s.body r, n := m.n + 1 }
    | 7 => { m with k := itemsI s.body (.mark m.l m.w s.els :: r), n := m.n + 1 }
    | 6 => match markI r with
      | some (l, w, e, r') => { l := l, w := w, k := itemsI e r', n := m.n + 1 }
      | none => m
    | _ => { m with k := r, n := m.n + 1 }
def answerI (x : Int) (m : PM) : PM :=
  match bareI m.k with
  | .st s :: r => { m with l := m.l.set s.to.toNat x, k := r, n := m.n + 1 }
  | _ => m
/-- A run: what it asks for last, what was written (rising), its locals, how many steps. -/
structure End9 where
  k : Nat
  at_ : Int
  x : Int
  w : List Pr
  l : List Int
  n : Nat
def runI (val : Int → Int) : Nat → PM → Option End9
  | 0, _ => none
  | f + 1, m =>
    let a := nextI vars got m
    if a.1 = 1 then runI val f (stepI vars got m)
    else if a.1 = 2 then (if (allS m.w).any (fun p => p.1 == a.2.1) || decide (a.2.1 < 0) || decide (vars ≤ a.2.1) then none else runI val f (answerI (val a.2.1) m))
    else some ⟨a.1, a.2.1, a.2.2, allS m.w, m.l, m.n⟩
end
def startI (tx : List St) : PM := ⟨[0, 0, 0, 0, 0, 0, 0, 0], [], tx.map It.st, 0⟩
def valL (l : List Int) (v : Int) : Int := if v < l.length then l.getD v.toNat 0 else v
/-- Expressions and statements, as the statements' package builds them. -/
def xLit (n : Int) : Ex := .node 1 n []
def xLoc (n : Int) : Ex := .node 2 n []
def xNo : Ex := .node 0 0 []
def xPlus (a b : Ex) : Ex := .node 4 0 [a, b]
def jRead (to v : Int) : St := .node 2 to (xLit v) xNo [] []
def jWrite (v : Int) (x : Ex) : St := .node 3 0 (xLit v) x [] []
def jBack (x : Ex) : St := .node 8 0 x xNo [] []
def jSet (to : Int) (x : Ex) : St := .node 1 to x xNo [] []
def jRetry : St := .node 6 0 xNo xNo [] []
def jOr (y e : List St) : St := .node 7 0 xNo xNo y e
def jLoop (a : Ex) (y : List St) : St := .node 5 0 a xNo y []
def jIf (a : Ex) (y e : List St) : St := .node 4 0 a xNo y e
/-- The transactions of the examples. -/
def tx1 : List St := [jRead 1 0, jWrite 0 (xPlus (xLoc 1) (xLit 1)), jBack (xLoc 1)]
def tx2 : List St := [jRetry]
def tx3 : List St := [jOr [jWrite 0 (xLit 1), jRetry] [jBack (xLit 9)]]
def txA : List St := [jOr [jWrite 1 (xLit 1), jOr [jWrite 2 (xLit 2), jRetry] [jRetry]] [jWrite 3 (xLit 3)]]
def txB : List St := [jOr [jRetry] [jRetry]]
def txC : List St := [jOr [jWrite 1 (xLit 5), jRead 2 1] [jBack (xLit 1)], jBack (xLoc 2)]
def txD : List St := [jSet 1 (xLit 4), jOr [jSet 1 (xLit 6), jRetry] [], jBack (xLoc 1)]
def sTurn : St := jSet 3 (xPlus (xLoc 3) (xLit 1))
def txI : List St := [jLoop (xLit 99) [sTurn], jBack (xLoc 3)]
def txJ : List St := [jLoop (xLit (-1)) [sTurn], jBack (xLoc 3)]
def txK : List St := [sTurn, jLoop (xPlus (xLoc 3) (xLit 1)) [sTurn], jBack (xLoc 3)]
def txL : List St := [jLoop (xLit 3) [], jIf (xLit 0) [jRetry] [sTurn], jIf (xLit 7) [] []]
def txO : List St := [jRead 0 (-1), jBack (xPlus (xLoc 0) (.node 3 1 []))]
theorem run1 : runI 1 [] (valL [5]) 2001 (startI tx1) = some ⟨3, 0, 5, [(0, 6)], [0, 5, 0, 0, 0, 0, 0, 0], 2⟩ := by kernel_rfl
theorem run2 : runI 1 [] (valL []) 2001 (startI tx2) = some ⟨4, 0, 0, [], [0, 0, 0, 0, 0, 0, 0, 0], 0⟩ := by kernel_rfl
theorem run3 : runI 1 [] (valL []) 2001 (startI tx3) = some ⟨3, 0, 9, [], [0, 0, 0, 0, 0, 0, 0, 0], 3⟩ := by kernel_rfl
theorem runA : runI 4 [] (valL []) 2001 (startI txA) = some ⟨3, 0, 0, [(3, 3)], [0, 0, 0, 0, 0, 0, 0, 0], 7⟩ := by kernel_rfl
theorem runB : runI 4 [] (valL []) 2001 (startI txB) = some ⟨4, 0, 0, [], [0, 0, 0, 0, 0, 0, 0, 0], 2⟩ := by kernel_rfl
theorem runC : runI 4 [] (valL []) 2001 (startI txC) = some ⟨3, 0, 5, [(1, 5)], [0, 0, 5, 0, 0, 0, 0, 0], 3⟩ := by kernel_rfl
theorem runD : runI 4 [] (valL []) 2001 (startI txD) = some ⟨3, 0, 4, [], [0, 4, 0, 0, 0, 0, 0, 0], 4⟩ := by kernel_rfl
theorem runTI : runI 4 [] (valL []) 2001 (startI txI) = some ⟨3, 0, 8, [], [0, 0, 0, 8, 0, 0, 0, 0], 9⟩ := by kernel_rfl
theorem runTJ : runI 4 [] (valL []) 2001 (startI txJ) = some ⟨3, 0, 0, [], [0, 0, 0, 0, 0, 0, 0, 0], 1⟩ := by kernel_rfl
theorem runTK : runI 4 [] (valL []) 2001 (startI txK) = some ⟨3, 0, 3, [], [0, 0, 0, 3, 0, 0, 0, 0], 4⟩ := by kernel_rfl
theorem runTL : runI 4 [] (valL []) 2001 (startI txL) = some ⟨3, 0, 0, [], [0, 0, 0, 1, 0, 0, 0, 0], 4⟩ := by kernel_rfl
theorem runTO : runI 4 [100, 200] (valL [0, 1, 2, 3]) 2001 (startI txO) = some ⟨3, 0, 203, [], [3, 0, 0, 0, 0, 0, 0, 0], 1⟩ := by kernel_rfl
end Go.Proofs.YthdcdffdpdoeoaaGreatDoor
