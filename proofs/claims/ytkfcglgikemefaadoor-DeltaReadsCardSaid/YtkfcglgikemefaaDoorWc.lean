/-
  CONTRACTS OF PACKAGE event (layer 12): the tables that it reads; Name, Kind, full, within, sizes, Stripe, and the methods that tell where a number is. Conditions: as they stand.
-/
import Derived.Test.YtkfcglgikemefaaDoorRows
import Derived.Test.YtkfcglgikemefaaDoorWb
import Derived.WalkKit
import Derived.Below
import Derived.PlainAid
import Derived.Lib.Hide
import Derived.LoopTactic
import Derived.Handy
import Derived.WalkLawsBesides
import Derived.WalkSpells
import Derived.Deep.QuietTactic
import Derived.BigQuiet
namespace Go.Proofs.YtkfcglgikemefaaDoor
set_option maxRecDepth 100000
open Go.RowKit
set_option linter.unusedVariables false
def bsW (l : List UInt8) : ByteArray := ⟨l.toArray⟩
theorem bsW_list (l : List UInt8) : (bsW l).data.toList = l := by simp [bsW]
theorem bsW_of (s : ByteArray) : bsW s.data.toList = s := by cases s; simp [bsW]
theorem testW (l : List UInt8) (s : ByteArray) : ((bsW l).toList == s.toList) = (l == s.data.toList) := by rw [ByteArray.toList_eq, ByteArray.toList_eq, bsW_list]
theorem there_blockW {w : World} {p : Addr} {v : Value} (h : w.cell? p = some v) : p.block < w.heap.size := by
  unfold World.cell? at h
  rcases Nat.lt_or_ge p.block w.heap.size with hh | hh
  · exact hh
  · rw [Array.getElem?_eq_none hh] at h; simp at h
/-- The table that package event reads. -/
structure Ek (w : World) : Prop where
  nm : ∀ k, k < 14 → w.cell? ⟨0, k, none⟩ = some (.string (bsW (nmL k)))
theorem Ek.below {w w' : World} (h : Ek w) (hb : Below w.heap.size w w') : Ek w' :=
  ⟨fun k hk => (hb.cell (there_blockW (h.nm k hk))).trans (h.nm k hk)⟩
theorem nmL_none {k : Nat} (h : 14 ≤ k) : nmL k = [] := by
  unfold nmL
  split <;> first | omega | rfl
def nmV (k : Nat) : Value := .string (bsW (nmL k))
theorem name_any (k : Nat) (hk : k < 256) (w : World) (he : Ek w) :
    Calls Tryd.prog 78 #[.int .u8 k] w fun e w' => e = .returned (nmV k) ∧ w = w' := by
  have i1 : (0 : Int) ≤ (k : Int) := by omega
  have i2 : (k : Int) ≤ 255 := by omega
  by_cases h : k < 14
  · have c1 := he.nm k h
    have i3 : (k : Int) < 14 := by omega
    obtain ⟨v, hv⟩ : ∃ v, v = nmV k := ⟨_, rfl⟩
    rw [← hv]
    unfold nmV at hv
    rw [← hv] at c1
    clear hv he h hk
    go_enter Tryd.func78, Tryd.ntmps78
    go_wp2
    go_ret
    exact ⟨rfl, rfl⟩
  · have i3 : (14 : Int) ≤ (k : Int) := by omega
    rw [show nmV k = .string ⟨#[]⟩ by unfold nmV; rw [nmL_none (by omega)]; rfl]
    clear he h hk
    go_enter Tryd.func78, Tryd.ntmps78
    go_wp2
    go_ret
    exact ⟨rfl, rfl⟩
theorem within_any (n lo hi : Int) (w : World) :
    Calls Tryd.prog 77 #[.int .i64 n, .int .i64 lo, .int .i64 hi] w fun e w' => e = .returned (.bool (decide (lo ≤ n) && decide (n ≤ hi))) ∧ w = w' := by
  by_cases h1 : lo ≤ n
  · by_cases h2 : n ≤ hi
    · rw [show (decide (lo ≤ n) && decide (n ≤ hi)) = true by simp [h1, h2]]
      go_enter Tryd.func77, Tryd.ntmps77
      go_wp2
      go_ret
      exact ⟨rfl, rfl⟩
    · have h3 : decide (n ≤ hi) = false := by simpa using h2
      rw [h3, Bool.and_false]
      clear h2
      go_enter Tryd.func77, Tryd.ntmps77
      go_wp2
      go_ret
      exact ⟨rfl, rfl⟩
  · have h3 : n < lo := by omega
    rw [show (decide (lo ≤ n) && decide (n ≤ hi)) = false by simp [h1]]
    clear h1
    go_enter Tryd.func77, Tryd.ntmps77
    go_wp2
    go_ret
    exact ⟨rfl, rfl⟩
theorem within64_any (n lo hi : Int) (w : World) :
    Calls Tryd.prog 82 #[.int .i64 n, .int .i64 lo, .int .i64 hi] w fun e w' => e = .returned (.bool (decide (lo ≤ n) && decide (n ≤ hi))) ∧ w = w' := by
  by_cases h1 : lo ≤ n
  · by_cases h2 : n ≤ hi
    · rw [show (decide (lo ≤ n) && decide (n ≤ hi)) = true by simp [h1, h2]]
      go_enter Tryd.func82, Tryd.ntmps82
      go_wp2
      go_ret
      exact ⟨rfl, rfl⟩
    · have h3 : decide (n ≤ hi) = false := by simpa using h2
      rw [h3, Bool.and_false]
      clear h2
      go_enter Tryd.func82, Tryd.ntmps82
      go_wp2
      go_ret
      exact ⟨rfl, rfl⟩
  · have h3 : n < lo := by omega
    rw [show (decide (lo ≤ n) && decide (n ≤ hi)) = false by simp [h1]]
    clear h1
    go_enter Tryd.func82, Tryd.ntmps82
    go_wp2
    go_ret
    exact ⟨rfl, rfl⟩
theorem sizes_any (T V S : Int) (w : World) :
    Calls Tryd.prog 76 #[.int .i64 T, .int .i64 V, .int .i64 S] w fun e w' => e = .returned (.bool (sizesB T V S)) ∧ w = w' := by
  unfold sizesB
  obtain ⟨a, ha⟩ : ∃ a, a = (decide (1 ≤ T) && decide (T ≤ 6)) := ⟨_, rfl⟩
  obtain ⟨b, hb⟩ : ∃ b, b = (decide (1 ≤ V) && decide (V ≤ 32)) := ⟨_, rfl⟩
  obtain ⟨c, hc⟩ : ∃ c, c = (decide (1 ≤ S) && decide (S ≤ V)) := ⟨_, rfl⟩
  have k1 := Lib.hid (within_any T 1 6 w)
  have k2 := Lib.hid (within_any V 1 32 w)
  have k3 := Lib.hid (within_any S 1 V w)
  rw [← ha] at k1 ⊢
  rw [← hb] at k2 ⊢
  rw [← hc] at k3 ⊢
  clear ha hb hc
  cases a with
  | false =>
    rw [show (false && b && c) = false by simp]
    go_enter Tryd.func76, Tryd.ntmps76
    go_wp2_with fail
    refine k1.out.mono ?_
    rintro _ w1 ⟨rfl, rfl⟩
    go_wp2_with fail
    go_ret
    exact ⟨rfl, rfl⟩
  | true =>
    cases b with
    | false =>
      rw [show (true && false && c) = false by simp]
      go_enter Tryd.func76, Tryd.ntmps76
      go_wp2_with fail
      refine k1.out.mono ?_
      rintro _ w1 ⟨rfl, rfl⟩
      go_wp2_with fail
      refine k2.out.mono ?_
      rintro _ w1 ⟨rfl, rfl⟩
      go_wp2_with fail
      go_ret
      exact ⟨rfl, rfl⟩
    | true =>
      rw [show (true && true && c) = c by simp]
      go_enter Tryd.func76, Tryd.ntmps76
      go_wp2_with fail
      refine k1.out.mono ?_
      rintro _ w1 ⟨rfl, rfl⟩
      go_wp2_with fail
      refine k2.out.mono ?_
      rintro _ w1 ⟨rfl, rfl⟩
      go_wp2_with fail
      refine k3.out.mono ?_
      rintro _ w1 ⟨rfl, rfl⟩
      go_wp2_with fail
      go_ret
      exact ⟨rfl, rfl⟩
/-- An event as a value. -/
def evV (e : Ev) : Value := .agg #[.int .u8 e.kd, .int .i64 e.th, .int .i64 e.tx, .int .i64 e.pl, .int .i64 e.v, .int .i64 e.x, .int .u8 e.why]
def evC (e : Ev) : Array Value := #[.int .u8 e.kd, .int .i64 e.th, .int .i64 e.tx, .int .i64 e.pl, .int .i64 e.v, .int .i64 e.x, .int .u8 e.why]
theorem full_any (e : Ev) (w : World) :
    Calls Tryd.prog 79 #[evV e] w fun r w' => r = .returned (.bool (fullB e.kd e.why)) ∧ Below w.heap.size w w' := by
  obtain ⟨kd, th, tx, pl, v, x, why⟩ := e
  unfold evV fullB
  simp only
  cases h1 : (kd == 10) with
  | false =>
    rw [Bool.false_and]
    go_enter Tryd.func79, Tryd.ntmps79
    go_wp2
    go_ret
    exact ⟨rfl, (Below.refl _ _).alloc (Nat.le_refl _) _⟩
  | true =>
    rw [Bool.true_and]
    go_enter Tryd.func79, Tryd.ntmps79
    go_wp2
    go_ret
    exact ⟨rfl, (Below.refl _ _).alloc (Nat.le_refl _) _⟩
theorem ret_kind {k K : Nat} {b B : Bool} (h : K = k) (hb : B = b) : Ending.returned (.tuple #[.int .u8 k, .bool b]) = .returned (.tuple #[.int .u8 K, .bool B]) := by rw [h, hb]
/-- The stripe that an event is about. -/
def stripeF (e : Ev) (S : Int) : Int × Bool :=
  if S < 1 ∨ e.pl < 0 ∨ fullB e.kd e.why = true then (0, false)
  else if e.kd = 2 ∨ e.kd = 4 ∨ e.kd = 6 ∨ e.kd = 9 ∨ e.kd = 11 ∨ e.kd = 10 then (e.pl, true)
  else if e.kd = 3 ∨ e.kd = 8 then (e.pl % S, true) else (0, false)
def strV (p : Int × Bool) : Value := .tuple #[.int .i64 p.1, .bool p.2]
theorem ret_str {p : Int × Bool} {a : Int} {b : Bool} (h : p = (a, b)) : Ending.returned (.tuple #[.int .i64 a, .bool b]) = .returned (strV p) := by rw [h]; rfl
end Go.Proofs.YtkfcglgikemefaaDoor

