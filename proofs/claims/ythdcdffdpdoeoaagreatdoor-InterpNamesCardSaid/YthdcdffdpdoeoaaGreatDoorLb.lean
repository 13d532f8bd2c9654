/-
  CONTRACT OF seesawref08's Pairs: whether two rows of pairs are the same; the memory stays as it was. Conditions: as they stand.
-/
import Derived.Test.YthdcdffdpdoeoaaGreatDoorLa
import Derived.ProofKit
import Derived.Lib.Hide
import Derived.Below
import Derived.PlainAid
import Derived.Deep.Draws
import Derived.Deep.QuietTactic
import Derived.BigQuiet
namespace Go.Proofs.YthdcdffdpdoeoaaGreatDoor
set_option maxRecDepth 100000
open Go.RowKit
set_option linter.unusedVariables false
/-- The pairs l lie at A, in blocks below hi. -/
def PairsAt (w : World) (hi : Nat) (A : Option Addr) (l : List Pr) : Prop := ∀ k (h : k < l.length), ∃ p, A = some p ∧ p.block < hi ∧ w.cell? (p.add (k * 2)) = some (.int .i64 l[k].1) ∧ w.cell? ⟨(p.add (k * 2)).block, (p.add (k * 2)).off + 1, none⟩ = some (.int .i64 l[k].2)
def sameP : List Pr → List Pr → Bool
  | [], [] => true
  | a :: r, b :: s => decide (a = b) && sameP r s
  | _, _ => false
theorem sameP_eq (a b : List Pr) : sameP a b = decide (a = b) := by
  induction a generalizing b with
  | nil => cases b <;> simp [sameP]
  | cons x r ih => cases b with
    | nil => simp [sameP]
    | cons y s => simp [sameP, ih]
theorem sameP_drop (a b : List Pr) (k : Nat) (h : k < a.length) (h' : k < b.length) : sameP (a.drop k) (b.drop k) = (decide (a[k] = b[k]) && sameP (a.drop (k + 1)) (b.drop (k + 1))) := by
  rw [List.drop_eq_getElem_cons h, List.drop_eq_getElem_cons h']
  rfl
theorem PairsAt.below {w w' : World} {hi B : Nat} {A : Option Addr} {l : List Pr} (h : PairsAt w hi A l) (hb : Below B w w') (hB : hi ≤ B) : PairsAt w' hi A l := fun k hk => by
  obtain ⟨p, rfl, m, c1, c2⟩ := h k hk
  have e : (p.add (k * 2)).block = p.block := by unfold Addr.add; split <;> rfl
  exact ⟨p, rfl, m, (hb.cell (by rw [e]; omega)).trans c1, (hb.cell (by show (p.add (k * 2)).block < B; rw [e]; omega)).trans c2⟩
theorem drewN_below8 (w : World) (n : Nat) : Below w.heap.size w (w.drewN n) := ⟨rfl, rfl, rfl, Nat.le_refl _, fun _ _ => rfl⟩
theorem neq_pair (x y x' y' : Int) (w : World) : (Go.binOp .neq 59 (.agg #[.int .i64 x, .int .i64 y]) (.agg #[.int .i64 x', .int .i64 y'])).run Tryz.prog w = .ok (.bool (!decide (x = x' ∧ y = y'))) w := by
  have hu := Tryz.underlying59
  have h1 := Tryz.underlying3
  have h2 := Tryz.underlying2
  have hs1 := Tryz.sizeOf3
  have hs2 := Tryz.sizeOf2
  have hi1 := Tryz.isAgg3
  have hi2 := Tryz.isAgg2
  simp only [Go.binOp]
  simp [Op.equal]
  rw [show Op.maxDepth = 9999 + 1 from rfl, run_equalIn_agg w 9999 59 _ _ (by kernel_rfl) (by kernel_rfl)]
  simp only [Program.fieldsOf, hu]
  rw [show (9999 : Nat) = 9998 + 1 from rfl]
  simp [Op.eqFields, go_sem]
  by_cases a : x = x' <;> by_cases b : y = y' <;> simp [*]
set_option maxRecDepth 100000 in
set_option maxHeartbeats 2000000 in
theorem pairs_any (a b : List Pr) (hi : Nat) (A B : Option Addr) (c c' : Nat) (w : World) (h : PairsAt w hi A a) (h' : PairsAt w hi B b) (hhi : hi ≤ w.heap.size) (ha : a.length ≤ 1000000) (hb : b.length ≤ 1000000) :
    Calls Tryz.prog 22 #[.slice A a.length c, .slice B b.length c'] w fun e w' => e = .returned (.bool (decide (a = b))) ∧ Below w.heap.size w w' := by
  by_cases e3 : a.length = b.length
  · have HE : Hid (a.length = b.length) := e3
    have HA := Lib.hid h
    have HB := Lib.hid h'
    have HS : Hid (decide (a = b) = sameP (a.drop 0) (b.drop 0)) := (sameP_eq a b).symm
    obtain ⟨bv, hbv⟩ : ∃ bv, bv = decide (a = b) := ⟨_, rfl⟩
    rw [← hbv] at HS ⊢
    rw [← e3]
    clear hbv h h' e3 hb
    go_enter Tryz.func22, Tryz.ntmps22
    go_wp2_with fail
    go_loopw [5] (fun i wr => ∃ k : Nat, k ≤ a.length ∧ i = .int .i64 k ∧ Hid (bv = sameP (a.drop k) (b.drop k)) ∧ Below w.heap.size w wr) (fun i _ => a.length - (intOf i).toNat)
    case atStart => exact ⟨0, by omega, rfl, HS, Below.refl _ _⟩
    case round =>
      obtain ⟨k, hk, rfl, hall, hb⟩ := hrel
      by_cases hlt : k < a.length
      · have hlt' : k < b.length := by rw [← HE.out]; exact hlt
        obtain ⟨p, rfl, m1, x1, x2⟩ := HA.out.below hb hhi k hlt
        obtain ⟨q, rfl, m2, y1, y2⟩ := HB.out.below hb hhi k hlt'
        have hd := hall.out
        rw [sameP_drop a b k hlt hlt'] at hd
        have i1 : (0 : Int) ≤ (k : Int) := by omega
        have i2 : (k : Int) < (a.length : Int) := by omega
        have heq := neq_pair a[k].1 a[k].2 b[k].1 b[k].2
        obtain ⟨u1, hu1⟩ : ∃ u, u = a[k].1 := ⟨_, rfl⟩
        obtain ⟨u2, hu2⟩ : ∃ u, u = a[k].2 := ⟨_, rfl⟩
        obtain ⟨v1, hv1⟩ : ∃ u, u = b[k].1 := ⟨_, rfl⟩
        obtain ⟨v2, hv2⟩ : ∃ u, u = b[k].2 := ⟨_, rfl⟩
        have hab : decide (a[k] = b[k]) = decide (u1 = v1 ∧ u2 = v2) := by rw [hu1, hu2, hv1, hv2]; exact decide_eq_decide.2 Prod.ext_iff
        rw [hab] at hd
        rw [← hu1, ← hu2, ← hv1, ← hv2] at heq
        rw [← hu1] at x1
        rw [← hu2] at x2
        rw [← hv1] at y1
        rw [← hv2] at y2
        have HBB := Lib.hid hb
        clear hu1 hu2 hv1 hv2 hab hall hb
        have HD := Lib.hid hd
        clear hd
        by_cases hc : u1 = v1 ∧ u2 = v2
        · have hcc : decide (u1 = v1 ∧ u2 = v2) = true := by simpa using hc
          rw [hcc] at heq
          have HD2 : Hid (bv = sameP (a.drop (k + 1)) (b.drop (k + 1))) := by have := HD.out; rw [hcc] at this; exact this
          clear hcc hc HD
          go_wp2_with fail
          go_quiet (fail)
          go_wp2_with fail
          go_roundw
          case rel => exact ⟨k + 1, by omega, by go_num, HD2, HBB.out.trans ((drewN_below8 _ _).mono HBB.out.size)⟩
          case measure => simp [intOf]; omega
        · have hcc : decide (u1 = v1 ∧ u2 = v2) = false := by simpa using hc
          rw [hcc] at heq
          have HD2 : bv = false := by have := HD.out; rw [hcc] at this; exact this
          subst HD2
          clear hcc hc HD
          go_wp2_with fail
          go_quiet (fail)
          go_wp2_with fail
          go_ret
          exact ⟨rfl, HBB.out.trans ((drewN_below8 _ _).mono HBB.out.size)⟩
      · have i1 : ¬ ((k : Int) < (a.length : Int)) := by omega
        obtain rfl : k = a.length := by omega
        have HD2 : bv = true := by have := hall.out; rw [List.drop_length, HE.out, List.drop_length] at this; exact this
        subst HD2
        go_wp2_with fail
        go_ret
        exact ⟨rfl, hb⟩
  · have hn : decide (a = b) = false := decide_eq_false fun h => e3 (by rw [h])
    have i1 : ((a.length : Int) == (b.length : Int)) = false := by simpa using fun h => e3 (by omega)
    have i2 : ((a.length : Int) != (b.length : Int)) = true := by simpa using fun h => e3 (by omega)
    have i3 : ¬ (a.length : Int) = (b.length : Int) := by omega
    rw [hn]
    clear h h' hn
    go_enter Tryz.func22, Tryz.ntmps22
    go_wp2_with fail
    go_ret
    exact ⟨rfl, Below.refl _ _⟩
end Go.Proofs.YthdcdffdpdoeoaaGreatDoor
