/-
  CONTRACT OF seesawref05's Depth (the document's own answer of layer 5): how deep a transaction is; the memory that was there stays as it was. Conditions: as they stand.
-/
import Derived.Test.YtnkdaehmdcpafaaDoorCm
import Derived.Test.YtnkdaehmdcpafaaDoorZa
import Derived.LoopTactic
import Derived.Handy
import Derived.WalkLawsBesides
import Derived.WalkSpells
import Derived.Deep.RegionHeld3
import Derived.Deep.DeepCutAuto
import Derived.Deep.CutBlock
namespace Go.Proofs.YtnkdaehmdcpafaaDoor
open Go.RowKit
set_option linter.unusedVariables false
/-- How deep a block is; a statement: how deep its blocks are. -/
def maxOf (f : St → Nat) (l : List St) : Nat := l.foldl (fun m s => max m (f s)) 0
def blkD (f : St → Nat) (l : List St) : Nat := if l.length = 0 then 0 else maxOf f l + 1
def depS : Nat → St → Nat
  | 0, _ => 0
  | d + 1, .node _ _ _ _ y e => max (blkD (depS d) y) (blkD (depS d) e)
theorem maxOf_take (f : St → Nat) (l : List St) (k : Nat) (h : k < l.length) : maxOf f (l.take (k + 1)) = max (maxOf f (l.take k)) (f l[k]) := by
  unfold maxOf
  rw [List.take_succ_eq_append_getElem h, List.foldl_append]
  rfl
theorem maxOf_le (f : St → Nat) (b : Nat) (l : List St) (h : ∀ s ∈ l, f s ≤ b) : maxOf f l ≤ b := by
  unfold maxOf
  have : ∀ (l : List St) (m : Nat), m ≤ b → (∀ s ∈ l, f s ≤ b) → l.foldl (fun m s => max m (f s)) m ≤ b := by
    intro l
    induction l with
    | nil => intro m hm _; exact hm
    | cons x r ih =>
      intro m hm h
      have := h x List.mem_cons_self
      exact ih _ (by show max m (f x) ≤ b; omega) fun s hs => h s (List.mem_cons_of_mem _ hs)
  exact this l 0 (Nat.zero_le _) h
theorem depS_le : ∀ (d : Nat) (s : St), depS d s ≤ d := by
  intro d
  induction d with
  | zero => intro s; exact Nat.zero_le _
  | succ d ih =>
    intro s
    obtain ⟨k, t, a, b, y, e⟩ := s
    have h1 : blkD (depS d) y ≤ d + 1 := by
      unfold blkD
      have := maxOf_le (depS d) d y fun s _ => ih s
      split <;> omega
    have h2 : blkD (depS d) e ≤ d + 1 := by
      unfold blkD
      have := maxOf_le (depS d) d e fun s _ => ih s
      split <;> omega
    rw [depS]
    omega
set_option maxRecDepth 100000 in
set_option maxHeartbeats 4000000 in
theorem rdepth_of (d : Nat) : ∀ (A : Option Addr) (c : Nat) (tx : List St) (lo hi : Nat) (w : World), SKids w lo hi d A tx → hi ≤ w.heap.size → tx.length ≤ 9223372036854775807 → d ≤ 100000 →
    Calls Tryd.prog 53 #[.slice A tx.length c] w fun z w' => z = .returned (.int .i64 (maxOf (depS d) tx + 1 : Nat)) ∧ Below w.heap.size w w' := by
  induction d using Nat.strongRecOn with
  | _ d ih =>
  intro A c tx lo hi w hk hhi hl hd
  have HK := Lib.hid hk
  have IH := Lib.hid ih
  clear hk ih
  go_enter Tryd.func53, Tryd.ntmps53
  go_wp2_with fail
  go_loopw [3, 4] (fun a i wr => ∃ k : Nat, k ≤ tx.length ∧ i = .int .i64 k ∧ a = .int .i64 (maxOf (depS d) (tx.take k) : Nat) ∧ Below w.heap.size w wr) (fun _ i _ => tx.length - (intOf i).toNat)
  case atStart => exact ⟨0, by omega, rfl, rfl, Below.refl _ _⟩
  case round =>
    obtain ⟨k, hk, rfl, rfl, hb⟩ := hrel
    have hmx := maxOf_le (depS d) d (tx.take k) fun s _ => depS_le d s
    by_cases hlt : k < tx.length
    · have i1 : (k : Int) < (tx.length : Int) := by omega
      have i0 : (0 : Int) ≤ (k : Int) := by omega
      have s1 := maxOf_take (depS d) tx k hlt
      obtain ⟨u, hu⟩ : ∃ u, u = maxOf (depS d) (tx.take k) := ⟨_, rfl⟩
      rw [← hu] at s1 hmx ⊢
      obtain ⟨p, r, rfl, m1, m2, ht, hs⟩ := HK.out.below hb (by omega) k hlt
      obtain ⟨q, rfl⟩ := hs.pos
      obtain ⟨s, hsx⟩ : ∃ s, s = tx[k] := ⟨_, rfl⟩
      rw [← hsx] at s1 hs
      obtain ⟨kk, t, a, b, y, e⟩ := s
      obtain ⟨⟨e1, e2, e3, e4⟩, ⟨q1, q2, q3, q4, q5⟩, _, _, hy, he⟩ := hs.open_
      have n1 : depS (q + 1) (.node kk t a b y e) = max (blkD (depS q) y) (blkD (depS q) e) := rfl
      rw [n1] at s1
      have hzr := hb.size
      have HY := Lib.hid (fun W' (h' : Below wr.heap.size wr W') (c : Nat) => IH.out q (by omega) r.yA c y lo hi W' (hy.below h' (by omega)) (by have := h'.size; omega) q4 (by omega))
      have HE := Lib.hid (fun W' (h' : Below wr.heap.size wr W') (c : Nat) => IH.out q (by omega) r.eA c e lo hi W' (he.below h' (by omega)) (by have := h'.size; omega) q5 (by omega))
      have HT := Lib.hid (fun W' (h' : Below wr.heap.size wr W') => ht.below h' (by rw [ad_block]; omega))
      have by1 := maxOf_le (depS q) q y fun s _ => depS_le q s
      have be1 := maxOf_le (depS q) q e fun s _ => depS_le q s
      have dy : blkD (depS q) y = if y.length = 0 then 0 else maxOf (depS q) y + 1 := rfl
      have de : blkD (depS q) e = if e.length = 0 then 0 else maxOf (depS q) e + 1 := rfl
      obtain ⟨x1, hx1⟩ : ∃ x, x = maxOf (depS q) y := ⟨_, rfl⟩
      obtain ⟨x2, hx2⟩ : ∃ x, x = maxOf (depS q) e := ⟨_, rfl⟩
      rw [← hx1] at by1 dy HY
      rw [← hx2] at be1 de HE
      rw [dy, de] at s1
      have g8 := ht.c8
      obtain ⟨rk, rt, rao, ran, raA, ral, rac, rbo, rbn, rbA, rbl, rbc, ryA, ryl, ryc, reA, rel, r9c⟩ := r
      dsimp only at *
      subst e1 e2 e3 e4
      have hB := Lib.hid hb
      clear n1 hu hx1 hx2 ht hs hsx hy he m1 m2 hzr hb dy de
      by_cases hy0 : y.length = 0
      · rw [if_pos hy0] at s1
        have t0 : ¬ ((0 : Int) < (y.length : Int)) := by omega
        go_upto_region 7 with fail
        clear g8
        have g9 := (HT.out wr (Below.refl _ _)).c9
        dsimp only at g9
        by_cases he0 : e.length = 0
        · rw [if_pos he0] at s1
          have t1 : ¬ ((0 : Int) < (e.length : Int)) := by omega
          go_wp2_with fail
          go_roundw
          case rel => exact ⟨k + 1, by omega, by go_num, by rw [s1]; go_num, hB.out.trans ((Below.refl wr.heap.size wr).mono hB.out.size)⟩
          case measure => simp [intOf]; omega
        · rw [if_neg he0] at s1
          have t1 : (0 : Int) < (e.length : Int) := by omega
          go_wp2_with fail
          refine (HE.out wr (Below.refl _ _) _).mono ?_
          rintro _ w6 ⟨rfl, b6⟩
          have b6 := (Below.refl wr.heap.size wr).trans (b6.mono (Below.refl wr.heap.size wr).size)
          go_upto_region 4 with fail
          have hmax2 : (if (u : Int) < (x2 : Int) + 1 then (x2 : Int) + 1 else u) = ((max u (x2 + 1) : Nat) : Int) := by split <;> omega
          rw [hmax2]
          go_wp2_with fail
          go_roundw
          case rel => exact ⟨k + 1, by omega, by go_num, by rw [s1]; go_num, hB.out.trans (b6.mono hB.out.size)⟩
          case measure => simp [intOf]; omega
      · rw [if_neg hy0] at s1
        have t0 : (0 : Int) < (y.length : Int) := by omega
        go_wp2_with fail
        refine (HY.out wr (Below.refl _ _) _).mono ?_
        rintro _ w5 ⟨rfl, b5⟩
        go_upto_region 7 with fail
        have hmax1 : (if (u : Int) < (x1 : Int) + 1 then (x1 : Int) + 1 else u) = ((max u (x1 + 1) : Nat) : Int) := by split <;> omega
        rw [hmax1]
        obtain ⟨m, hm⟩ : ∃ m, m = max u (x1 + 1) := ⟨_, rfl⟩
        rw [← hm]
        have hm2 : m ≤ 100000 := by omega
        have HM := Lib.hid hm
        clear g8 hmax1 hm
        have g9 := (HT.out w5 b5).c9
        dsimp only at g9
        by_cases he0 : e.length = 0
        · rw [if_pos he0] at s1
          have t1 : ¬ ((0 : Int) < (e.length : Int)) := by omega
          go_wp2_with fail
          go_roundw
          case rel => exact ⟨k + 1, by omega, by go_num, by rw [s1]; have := HM.out; go_num, hB.out.trans ((b5).mono hB.out.size)⟩
          case measure => simp [intOf]; omega
        · rw [if_neg he0] at s1
          have t1 : (0 : Int) < (e.length : Int) := by omega
          go_wp2_with fail
          refine (HE.out w5 (b5) _).mono ?_
          rintro _ w6 ⟨rfl, b6⟩
          have b6 := (b5).trans (b6.mono (b5).size)
          go_upto_region 4 with fail
          have hmax2 : (if (m : Int) < (x2 : Int) + 1 then (x2 : Int) + 1 else m) = ((max m (x2 + 1) : Nat) : Int) := by split <;> omega
          rw [hmax2]
          go_wp2_with fail
          go_roundw
          case rel => exact ⟨k + 1, by omega, by go_num, by rw [s1]; have := HM.out; go_num, hB.out.trans (b6.mono hB.out.size)⟩
          case measure => simp [intOf]; omega
    · have i1 : ¬ ((k : Int) < (tx.length : Int)) := by omega
      obtain rfl : k = tx.length := by omega
      have HL : Hid (maxOf (depS d) (tx.take tx.length) = maxOf (depS d) tx) := by show _ = _; rw [List.take_length]
      rw [HL.out] at hmx ⊢
      go_wp2_with fail
      go_ret
      exact ⟨rfl, hb⟩
end Go.Proofs.YtnkdaehmdcpafaaDoor
