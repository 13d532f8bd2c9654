/-
  CONTRACT OF seesawref08's Get: what is written of a variable. Conditions: as they stand.
-/
import Derived.Test.YthdcdffdpdoeoaaGreatDoorLb
namespace Go.Proofs.YthdcdffdpdoeoaaGreatDoor
set_option maxRecDepth 100000
open Go.RowKit
set_option linter.unusedVariables false
/-- The rows L (the lowest level first) lie at A. -/
def RowsAt (w : World) (hi : Nat) (A : Option Addr) (L : List (List Pr)) : Prop := ∀ k (h : k < L.length), ∃ p B c, A = some p ∧ p.block < hi ∧ w.cell? (p.add k) = some (.slice B L[k].length c) ∧ L[k].length ≤ 1000000 ∧ PairsAt w hi B L[k]
theorem RowsAt.below {w w' : World} {hi B : Nat} {A : Option Addr} {L : List (List Pr)} (h : RowsAt w hi A L) (hb : Below B w w') (hB : hi ≤ B) : RowsAt w' hi A L := fun k hk => by
  obtain ⟨p, b, c, rfl, m, c1, l1, h1⟩ := h k hk
  have e : (p.add k).block = p.block := by unfold Addr.add; split <;> rfl
  exact ⟨p, b, c, rfl, m, (hb.cell (by rw [e]; omega)).trans c1, l1, h1.below hb hB⟩
theorem flat_rev (T : List (List Pr)) : flatB T = T.reverse.flatten := by
  induction T with
  | nil => rfl
  | cons a t ih => show flatB t ++ a = _; rw [ih, List.reverse_cons, List.flatten_append]; simp
theorem take_says (l : List Pr) (j : Nat) (h : j < l.length) (x : List Pr) (v : Int) : rowSays (x ++ l.take (j + 1)) v = if l[j].1 = v then some l[j].2 else rowSays (x ++ l.take j) v := by
  rw [List.take_succ_eq_append_getElem h, ← List.append_assoc, says_snoc]
theorem take_flat (L : List (List Pr)) (m : Nat) (h : m < L.length) (v : Int) : rowSays (L.take (m + 1)).flatten v = rowSays ((L.take m).flatten ++ L[m].take L[m].length) v := by
  rw [List.take_succ_eq_append_getElem h, List.flatten_append, List.take_length]; simp
def got (r : Option Int) : Value := .tuple #[.int .i64 (r.getD 0), .bool r.isSome]
end Go.Proofs.YthdcdffdpdoeoaaGreatDoor
