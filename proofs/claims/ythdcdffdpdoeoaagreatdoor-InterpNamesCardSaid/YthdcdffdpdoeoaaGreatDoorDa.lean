/-
  CONTRACTS OF PACKAGE expr's OPERATORS: operator (an array of functions), its five functions, truth: which function stands at an Op, and what it comes to. No condition.
-/
import Derived.Test.YthdcdffdpdoeoaaGreatDoorEb
import Derived.Deep.DeepCutAuto
import Derived.Deep.CutBlock
namespace Go.Proofs.YthdcdffdpdoeoaaGreatDoor
set_option maxRecDepth 100000
open Go.RowKit
set_option linter.unusedVariables false
/-- Which function stands at an Op. -/
def opFn (op : Nat) : Value :=
  if op = 4 then .func (.func 94) #[] #[] else if op = 5 then .func (.func 95) #[] #[] else if op = 6 then .func (.func 96) #[] #[] else if op = 7 then .func (.func 97) #[] #[] else if op = 8 then .func (.func 99) #[] #[] else .nilFunc
theorem ret_v {a b : Value} (h : a = b) : Ending.returned a = .returned b := by rw [h]
theorem st_nilFunc (w : World) (a : Addr) (m : Mode) : (store a .nilFunc m).run Tryz.prog w = stored Tryz.prog w a .nilFunc m := run_store Tryz.prog w a _ m rfl
theorem st_func (w : World) (a : Addr) (m : Mode) (n : Nat) : (store a (.func (.func n) #[] #[]) m).run Tryz.prog w = stored Tryz.prog w a (.func (.func n) #[] #[]) m := run_store Tryz.prog w a _ m rfl
theorem opFn_at (op : Nat) (h : op < 9) : ([.nilFunc, .nilFunc, .nilFunc, .nilFunc, .func (.func 94) #[] #[], .func (.func 95) #[] #[], .func (.func 96) #[] #[], .func (.func 97) #[] #[], .func (.func 99) #[] #[]] : List Value)[op]? = some (opFn op) := by
  obtain h | h | h | h | h | h | h | h | h : op = 0 ∨ op = 1 ∨ op = 2 ∨ op = 3 ∨ op = 4 ∨ op = 5 ∨ op = 6 ∨ op = 7 ∨ op = 8 := by omega
  all_goals subst h; rfl
theorem opFn_no (op : Nat) (h : 9 ≤ op) : opFn op = .nilFunc := by unfold opFn; rw [if_neg (by omega), if_neg (by omega), if_neg (by omega), if_neg (by omega), if_neg (by omega)]
set_option maxRecDepth 100000 in
theorem oper_any (op : Nat) (w : World) (h : op < 256) :
    Calls Tryz.prog 83 #[.int .u8 op] w fun r w' => r = .returned (opFn op) ∧ Below w.heap.size w w' := by
  have s1 := st_nilFunc
  have s2 := st_func
  by_cases h9 : op < 9
  · have hl := opFn_at op h9
    have hb : (op : Int) < 9 := by omega
    obtain ⟨v, hv⟩ : ∃ v, v = opFn op := ⟨_, rfl⟩
    rw [← hv] at hl ⊢
    have HL := Lib.hid hl
    clear hv
    go_enter Tryz.func83, Tryz.ntmps83
    go_wp2_with fail
    go_ret
    exact ⟨ret_v (List.getElem?_eq_some_iff.1 HL.out).2, by go_grown⟩
  · have hb : 9 ≤ (op : Int) := by omega
    rw [opFn_no op (by omega)]
    go_enter Tryz.func83, Tryz.ntmps83
    go_wp2_with fail
    go_ret
    exact ⟨rfl, by go_grown⟩
set_option maxRecDepth 100000 in
theorem oper_add (x y : Int) (w : World) : Calls Tryz.prog 94 #[.int .i64 x, .int .i64 y] w fun r w' => r = .returned (.int .i64 (opV 4 x y)) ∧ w = w' := by
  go_enter Tryz.func94, Tryz.ntmps94
  go_wp2_with fail
  go_ret
  exact ⟨rfl, rfl⟩
set_option maxRecDepth 100000 in
theorem oper_sub (x y : Int) (w : World) : Calls Tryz.prog 95 #[.int .i64 x, .int .i64 y] w fun r w' => r = .returned (.int .i64 (opV 5 x y)) ∧ w = w' := by
  go_enter Tryz.func95, Tryz.ntmps95
  go_wp2_with fail
  go_ret
  exact ⟨rfl, rfl⟩
set_option maxRecDepth 100000 in
theorem oper_mul (x y : Int) (w : World) : Calls Tryz.prog 96 #[.int .i64 x, .int .i64 y] w fun r w' => r = .returned (.int .i64 (opV 6 x y)) ∧ w = w' := by
  go_enter Tryz.func96, Tryz.ntmps96
  go_wp2_with fail
  go_ret
  exact ⟨rfl, rfl⟩
/-- A truth as a number. -/
def b01 (b : Bool) : Int := if b then 1 else 0
set_option maxRecDepth 100000 in
theorem truth_any (b : Bool) (w : World) : Calls Tryz.prog 98 #[.bool b] w fun r w' => r = .returned (.int .i64 (b01 b)) ∧ w = w' := by
  cases b
  all_goals
    go_enter Tryz.func98, Tryz.ntmps98
    go_wp2_with fail
    go_ret
    exact ⟨rfl, rfl⟩
set_option maxRecDepth 100000 in
theorem oper_less (x y : Int) (w : World) : Calls Tryz.prog 97 #[.int .i64 x, .int .i64 y] w fun r w' => r = .returned (.int .i64 (opV 7 x y)) ∧ w = w' := by
  have e : Hid (opV 7 x y = b01 (decide (x < y))) := by show _ = _; simp [opV, b01]
  obtain ⟨u, hu⟩ : ∃ u, u = opV 7 x y := ⟨_, rfl⟩
  rw [← hu] at e ⊢
  clear hu
  go_enter Tryz.func97, Tryz.ntmps97
  go_wp2_with fail
  refine (truth_any _ _).mono ?_
  rintro r w' ⟨rfl, rfl⟩
  go_wp2_with fail
  go_ret
  exact ⟨ret_v (by rw [e.out]; rfl), rfl⟩
set_option maxRecDepth 100000 in
theorem oper_equal (x y : Int) (w : World) : Calls Tryz.prog 99 #[.int .i64 x, .int .i64 y] w fun r w' => r = .returned (.int .i64 (opV 8 x y)) ∧ w = w' := by
  have e : Hid (opV 8 x y = b01 (x == y)) := by show _ = _; simp [opV, b01]
  obtain ⟨u, hu⟩ : ∃ u, u = opV 8 x y := ⟨_, rfl⟩
  rw [← hu] at e ⊢
  clear hu
  go_enter Tryz.func99, Tryz.ntmps99
  go_wp2_with fail
  refine (truth_any _ _).mono ?_
  rintro r w' ⟨rfl, rfl⟩
  go_wp2_with fail
  go_ret
  exact ⟨ret_v (by rw [e.out]; rfl), rfl⟩
end Go.Proofs.YthdcdffdpdoeoaaGreatDoor
