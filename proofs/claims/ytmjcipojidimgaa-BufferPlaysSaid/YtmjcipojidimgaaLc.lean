/-
  CONTRACT OF seesawref08's Get: what is written of a variable. Conditions: as they stand.
-/
import Derived.Test.YtmjcipojidimgaaLb
namespace Go.Proofs.Ytmjcipojidimgaa
set_option maxRecDepth 100000
open Go.RowKit
set_option linter.unusedVariables false
/-- The rows L (the lowest level first) lie at A. -/
def RowsAt (w : World) (hi : Nat) (A : Option Addr) (L : List (List Pr)) : Prop := ∀ k (h : k < L.length), ∃ p B c, A = some p ∧ p.block < hi ∧ w.cell? (p.add k) = some (.slice B L[k].length c) ∧ L[k].length ≤ 1000000 ∧ PairsAt w hi B L[k]
theorem RowsAt.below {w w' : World} {hi B : Nat} {A : Option Addr} {L : List (List Pr)} (h : RowsAt w hi A L) (hb : Below B w w') (hB : hi ≤ B) : RowsAt w' hi A L := fun k hk => by
  obtain ⟨p, b, c, rfl, m, c1, l1, h1⟩ := h k hk
  have e : (p.add k).block = p.block := by unfold Addr.add; split <;> rfl
  exact ⟨p, b, c, rfl, m, (hb.cell (by rw [e]; omega)).trans c1, l1, h1.below hb hB⟩
theorem flat_rev (T : List (List Pr)) : flat T = T.reverse.flatten := by
  induction T with
  | nil => rfl
  | cons a t ih => show flat t ++ a = _; rw [ih, List.reverse_cons, List.flatten_append]; simp
theorem take_says (l : List Pr) (j : Nat) (h : j < l.length) (x : List Pr) (v : Int) : rowSays (x ++ l.take (j + 1)) v = if l[j].1 = v then some l[j].2 else rowSays (x ++ l.take j) v := by
  rw [List.take_succ_eq_append_getElem h, ← List.append_assoc, says_snoc]
theorem take_flat (L : List (List Pr)) (m : Nat) (h : m < L.length) (v : Int) : rowSays (L.take (m + 1)).flatten v = rowSays ((L.take m).flatten ++ L[m].take L[m].length) v := by
  rw [List.take_succ_eq_append_getElem h, List.flatten_append, List.take_length]; simp
def got (r : Option Int) : Value := .tuple #[.int .i64 (r.getD 0), .bool r.isSome]
set_option maxRecDepth 100000 in
set_option maxHeartbeats 4000000 in
theorem rget_any (L : List (List Pr)) (v : Int) (q hi : Nat) (A : Option Addr) (c : Nat) (w : World) (hq : w.cell? ⟨q, 0, none⟩ = some (.slice A L.length c)) (hqs : q < hi) (h : RowsAt w hi A L) (hhi : hi ≤ w.heap.size) (hL : L.length ≤ 1000000) :
    Calls Try.prog 22 #[.pointer (some ⟨q, 0, none⟩), .int .i64 v] w fun e w' => e = .returned (got (rowSays L.flatten v)) ∧ Below w.heap.size w w' := by
  have HA := Lib.hid h
  have HQ := Lib.hid hq
  have HS : Hid (rowSays L.flatten v = rowSays (L.take L.length).flatten v) := by show _ = _; rw [List.take_length]
  obtain ⟨R, hR⟩ : ∃ R, R = rowSays L.flatten v := ⟨_, rfl⟩
  rw [← hR] at HS ⊢
  clear hR h
  have hw1 : (L.length : Int) - 1 < 9223372036854775808 := by omega
  go_enter Try.func22, Try.ntmps22
  go_wp2_with fail
  go_loopw [6] (fun i wr => ∃ m : Nat, m ≤ L.length ∧ i = .int .i64 ((m : Int) - 1) ∧ Hid (R = rowSays (L.take m).flatten v) ∧ wr = w) (fun i _ => (intOf i + 1).toNat)
  case atStart => exact ⟨L.length, Nat.le_refl _, by go_num, HS, rfl⟩
  case round =>
    obtain ⟨m, hm, rfl, hr, rfl⟩ := hrel
    cases m with
    | zero =>
      have i1 : ¬ ((0 : Int) ≤ ((0 : Nat) : Int) - 1) := by omega
      have hr0 : R = none := hr.out
      subst hr0
      go_wp2_with fail
      go_ret2
      exact ⟨rfl, Below.refl _ _⟩
    | succ m =>
      obtain ⟨p, B, c', rfl, mb, c1, l1, hp⟩ := HA.out m hm
      have HP := Lib.hid hp
      have hr2 : Hid (R = rowSays ((L.take m).flatten ++ L[m].take L[m].length) v) := by show _ = _; rw [hr.out]; exact take_flat L m hm v
      obtain ⟨row, hrow⟩ : ∃ row, row = L[m] := ⟨_, rfl⟩
      rw [← hrow] at c1 l1 HP hr2
      obtain ⟨X, hX⟩ : ∃ X, X = (L.take m).flatten := ⟨_, rfl⟩
      rw [← hX] at hr2
      have HX := Lib.hid hX
      have e1 : (((m + 1 : Nat) : Int) - 1) = (m : Int) := by omega
      rw [e1]
      have i1 : (0 : Int) ≤ (m : Int) := by omega
      have i2 : (m : Int) < (L.length : Int) := by omega
      have i3 : (m : Int) ≤ 1000000 := by omega
      clear hp hr hrow hX e1 hm
      go_wp2_with fail
      go_loopw [7] (fun i wr' => ∃ j : Nat, j ≤ row.length ∧ i = .int .i64 ((j : Int) - 1) ∧ Hid (R = rowSays (X ++ row.take j) v) ∧ wr' = wr) (fun i _ => (intOf i + 1).toNat)
      case atStart => exact ⟨row.length, Nat.le_refl _, by go_num, hr2, rfl⟩
      case round =>
        obtain ⟨j, hj, rfl, hs, rfl⟩ := hrel
        cases j with
        | zero =>
          have j1 : ¬ ((0 : Int) ≤ ((0 : Nat) : Int) - 1) := by omega
          have hs0 : Hid (R = rowSays (L.take m).flatten v) := by show _ = _; rw [← HX.out, hs.out]; simp
          go_wp2_with fail
          go_roundw
          case rel => exact ⟨m, by omega, by go_num, hs0, trivial⟩
          case measure => first | (simp [intOf]; done) | (simp [intOf]; omega)
        | succ j =>
          obtain ⟨g, rfl, gb, x1, x2⟩ := HP.out j hj
          have hs2 := hs.out
          rw [take_says row j hj] at hs2
          have e1 : (((j + 1 : Nat) : Int) - 1) = (j : Int) := by omega
          rw [e1]
          have j1 : (0 : Int) ≤ (j : Int) := by omega
          have j2 : (j : Int) < (row.length : Int) := by omega
          have j3 : (j : Int) ≤ 1000000 := by omega
          obtain ⟨u1, hu1⟩ : ∃ u, u = row[j].1 := ⟨_, rfl⟩
          obtain ⟨u2, hu2⟩ : ∃ u, u = row[j].2 := ⟨_, rfl⟩
          rw [← hu1, ← hu2] at hs2
          rw [← hu1] at x1
          rw [← hu2] at x2
          clear hu1 hu2 e1 hs
          by_cases hv : u1 = v
          · have hR : R = some u2 := by rw [hs2, if_pos hv]
            subst hR
            have hb : (u1 == v) = true := by simpa using hv
            clear hs2
            go_wp2_with fail
            go_ret2
            exact ⟨rfl, Below.refl _ _⟩
          · rw [if_neg hv] at hs2
            have hb : (u1 == v) = false := by simpa using hv
            have HS2 := Lib.hid hs2
            clear hs2
            go_wp2_with fail
            go_roundw
            case rel => exact ⟨j, by omega, by go_num, HS2, trivial⟩
            case measure => first | (simp [intOf]; done) | (simp [intOf]; omega)
end Go.Proofs.Ytmjcipojidimgaa
