/-
  CONTRACTS OF seesawref06's Ints, Cost and Check (the document's own answers of layer 6), at any setup that lies in memory; the memory that was there stays as it was. Conditions: as they stand.
-/
import Derived.Test.YtpgkhodofhnpnaaDoorZc
import Derived.Test.YtpgkhodofhnpnaaDoorZe
import Derived.Deep.DeepCutAuto
import Derived.Deep.CutBlock
namespace Go.Proofs.YtpgkhodofhnpnaaDoor
set_option maxRecDepth 100000
open Go.RowKit
set_option linter.unusedVariables false
/-- Whether each transaction is so, by its place. -/
def txsG (f : List St → Int → Bool) : List (List St) → Nat → Bool
  | [], _ => true
  | x :: r, n => f x n && txsG f r (n + 1)
def thrG (f : List St → Int → Bool) : List (List (List St)) → Bool
  | [] => true
  | x :: r => decide (x.length ≤ 6) && (txsG f x 0 && thrG f r)
theorem txsG_drop (f : List St → Int → Bool) (l : List (List St)) (k : Nat) (h : k < l.length) : txsG f (l.drop k) k = (f l[k] k && txsG f (l.drop (k + 1)) (k + 1)) := by
  rw [List.drop_eq_getElem_cons h]
  rfl
theorem thrG_drop (f : List St → Int → Bool) (l : List (List (List St))) (k : Nat) (h : k < l.length) : thrG f (l.drop k) = (decide (l[k].length ≤ 6) && (txsG f l[k] 0 && thrG f (l.drop (k + 1)))) := by
  rw [List.drop_eq_getElem_cons h]
  rfl
theorem txsG_may (d : Nat) : ∀ (l : List (List St)) (n : Nat), (∀ x ∈ l, ∀ n : Int, rmayF d x n = mayF d x n) → txsG (rmayF d) l n = txsF d l n := by
  intro l
  induction l with
  | nil => intro n _; rfl
  | cons x r ih => intro n h; rw [txsG, txsF, h x (List.mem_cons_self ..), ih _ fun y hy => h y (List.mem_cons_of_mem _ hy)]
theorem thrG_may (d : Nat) : ∀ (T : List (List (List St))), (∀ l ∈ T, ∀ x ∈ l, ∀ n : Int, rmayF d x n = mayF d x n) → thrG (rmayF d) T = thrF d T := by
  intro T
  induction T with
  | nil => intro _; rfl
  | cons x r ih => intro h; rw [thrG, thrF, txsG_may d x 0 (h x (List.mem_cons_self ..)), ih fun y hy => h y (List.mem_cons_of_mem _ hy)]
set_option maxRecDepth 100000 in
theorem rints_same (L M : List Int) (A B : Option Addr) (c c' hi hi' : Nat) (w : World) (hA : Ints w hi A L) (hB : Ints w hi' B M) (hhi : hi ≤ w.heap.size) (hhi' : hi' ≤ w.heap.size) :
    Calls Tryd.prog 32 #[.slice A L.length c, .slice B M.length c'] w fun e w' => e = .returned (.bool (decide (L = M))) ∧ Below w.heap.size w w' := by
  have l1 := hA.len
  have l2 := hB.len
  by_cases hl : L.length = M.length
  · have hC := Lib.hid (fun k (h1 : k < L.length) (h2 : k < M.length) => And.intro (hA.cell k h1) (hB.cell k h2))
    have HT := Lib.hid (fun k (hk : k < L.length) => ints_drop (a := L) (b := M) (k := k) hl hk)
    obtain ⟨x, hx⟩ : ∃ x, x = L.length := ⟨_, rfl⟩
    obtain ⟨y, hy⟩ : ∃ y, y = M.length := ⟨_, rfl⟩
    have HX := Lib.hid hx
    have HY := Lib.hid hy
    rw [← hx, ← hy]
    rw [← hx] at l1 hl
    rw [← hy] at hl l2
    have i0 : ((x : Int) != (y : Int)) = false := bne_eq_false_iff_eq.2 (by omega)
    clear hx hy hA hB
    go_enter Tryd.func32, Tryd.ntmps32
    go_wp2_with fail
    go_loopw [5] (fun i wr => ∃ k : Nat, k ≤ x ∧ i = .int .i64 k ∧ Hid (L.take k = M.take k) ∧ Hid (Below w.heap.size w wr)) (fun i _ => x - (intOf i).toNat)
    case atStart => exact ⟨0, by omega, by go_num, rfl, Below.refl _ _⟩
    case round =>
      obtain ⟨k, hk, rfl, HK, hO⟩ := hrel
      by_cases hlt : k < x
      · obtain ⟨⟨p, rfl, m1, d1⟩, ⟨q, rfl, m2, d2⟩⟩ := hC.out k (by have := HX.out; omega) (by have := HY.out; omega)
        have f1 := (hO.out.cell (p := p.add k) (by rw [ad_block]; omega)).trans d1
        have f2 := (hO.out.cell (p := q.add k) (by rw [ad_block]; omega)).trans d2
        have hT := (HT.out k (by have := HX.out; omega) HK.out)
        obtain ⟨u, hu⟩ : ∃ u, u = L[k]'(by have := HX.out; omega) := ⟨_, rfl⟩
        obtain ⟨v, hv⟩ : ∃ v, v = M[k]'(by have := HY.out; omega) := ⟨_, rfl⟩
        rw [← hu] at f1
        rw [← hv] at f2
        rw [← hu, ← hv] at hT
        have HT2 := Lib.hid hT
        clear d1 d2 hu hv hC hT m1 m2
        by_cases huv : u = v
        · have i2 : (u != v) = false := bne_eq_false_iff_eq.2 huv
          have HN : Hid (L.take (k + 1) = M.take (k + 1)) := HT2.out.2 huv
          clear huv
          go_wp2_with fail
          go_quiet (fail)
          go_wp2_with fail
          go_roundw
          case rel => exact ⟨k + 1, by omega, by go_num, HN, hO.out.trans ((drewN_below2 wr _).mono hO.out.size)⟩
          case measure => simp [intOf]; omega
        · have i2 : (u != v) = true := bne_iff_ne.2 huv
          have HN : Hid (L ≠ M) := fun h => huv (HT2.out.1 (by rw [h]))
          clear huv
          go_wp2_with fail
          go_quiet (fail)
          go_wp2_with fail
          go_ret
          exact ⟨by rw [decide_eq_false HN.out]; rfl, hO.out.trans ((drewN_below2 wr _).mono hO.out.size)⟩
      · have HN : Hid (L = M) := by
          have h1 := HK.out
          have h2 := HX.out
          have h3 := HY.out
          rw [List.take_of_length_le (by omega), List.take_of_length_le (by omega)] at h1
          exact h1
        clear HK HT hC
        go_wp2_with fail
        go_ret
        exact ⟨by rw [decide_eq_true HN.out]; rfl, hO.out⟩
  · have HN : Hid (decide (L = M) = false) := decide_eq_false (fun h => hl (by rw [h]))
    obtain ⟨x, hx⟩ : ∃ x, x = L.length := ⟨_, rfl⟩
    obtain ⟨y, hy⟩ : ∃ y, y = M.length := ⟨_, rfl⟩
    rw [← hx, ← hy]
    rw [← hx] at l1 hl
    rw [← hy] at hl l2
    have i0 : ((x : Int) != (y : Int)) = true := bne_iff_ne.2 (by omega)
    clear hx hy hA hB
    go_enter Tryd.func32, Tryd.ntmps32
    go_wp2_with fail
    go_ret
    exact ⟨by rw [HN.out]; rfl, Below.refl _ _⟩
end Go.Proofs.YtpgkhodofhnpnaaDoor
