/-
  CONTRACTS OF PACKAGE code's tell, statements and its closure: the iterator over all statements of a transaction, each with how deep it stands: it hands on all of them, in their order, or a beginning of them, if a round says no more; a round must keep what lay below n₀, and all blocks of cells from m on. Conditions: as they stand.
-/
import Derived.Test.YtnkdaehmdcpafaaDoorCm
import Derived.RangeFuncNested
import Derived.RangeFuncBound
import Derived.RangeFuncCalls
import Derived.RangeFuncLeaves
import Derived.Shelf.Abstract
import Derived.Shelf.RegionOpen
import Derived.OwnWalkIn
import Derived.TacticsInMore
import Derived.LoopNIn
import Derived.LoopIn
namespace Go.Proofs.YtnkdaehmdcpafaaDoor
open Go.RowKit Go.Shelf
set_option linter.unusedVariables false
attribute [local go_sem] Oper.semAt_some

theorem room_of_none {F : Fence} (hd : F.depth = none) (k : Nat) : F.room k := fun d h => by rw [hd] at h; cases h
theorem RoundIn.anyDepth {F : Fence} (hd : F.depth = none) {m m' : Nat} {P : Program} {l : Nat} {f : FuncId} {tmps : Array Value} {assign body : Code} {w : World} {R : Ending → World → Prop}
    (h : RoundIn F m P l f tmps assign body w R) : RoundIn F m' P l f tmps assign body w R := ⟨h.1, fun c cs _ => h.2 c cs (room_of_none hd _)⟩
theorem YieldAt.anyDepth {F : Fence} (hd : F.depth = none) {m : Nat} (m' : Nat) {P : Program} {l : Nat} {args : Array Value} {W : World} {R : Ending → World → Prop} (h : YieldAt F m P l args W R) : YieldAt F m' P l args W R := by
  obtain ⟨fn, tmps, assign, body, hy, hR⟩ := h
  exact ⟨fn, tmps, assign, body, hy, RoundIn.anyDepth hd hR⟩

/-- What a round keeps: what lay below n₀, and the blocks of cells from m on. -/
structure Kc (n₀ m : Nat) (W W' : World) : Prop where
  low : Below n₀ W W'
  high : ∀ i cs t f, m ≤ i → W.heap[i]? = some (.cells cs t f) → W'.heap[i]? = some (.cells cs t f)
theorem Kc.refl (n₀ m : Nat) (W : World) : Kc n₀ m W W := ⟨Below.refl _ _, fun _ _ _ _ _ h => h⟩
theorem Kc.trans {n₀ m : Nat} {A B C : World} (h : Kc n₀ m A B) (k : Kc n₀ m B C) : Kc n₀ m A C := ⟨h.low.trans k.low, fun i cs t f hi hA => k.high i cs t f hi (h.high i cs t f hi hA)⟩
theorem Kc.of_below {n₀ m : Nat} {A B : World} (h : Below A.heap.size A B) (hn : n₀ ≤ A.heap.size) : Kc n₀ m A B := ⟨h.mono hn, fun i cs t f hi hA => (h.block i (Array.getElem?_eq_some_iff.1 hA).1).trans hA⟩
theorem Kc.alloc {n₀ m : Nat} {A : World} (o : Obj) (hn : n₀ ≤ A.heap.size) : Kc n₀ m A (A.alloc o) := .of_below ((Below.refl _ _).alloc (Nat.le_refl _) o) hn
theorem Kc.drew {n₀ m : Nat} {A : World} : Kc n₀ m A A.drew := ⟨(Below.refl _ _).drew, fun _ _ _ _ _ h => h⟩
theorem Kc.set {n₀ m : Nat} {A : World} {g i : Nat} (u : Value) (h1 : n₀ ≤ g) (h2 : g < m) : Kc n₀ m A (A.setCell ⟨g, i, none⟩ u) :=
  ⟨(Below.refl n₀ A).setCell (p := ⟨g, i, none⟩) h1 u, fun k cs t f hk hA => (Below.heap_setCell A ⟨g, i, none⟩ u k (by show k ≠ g; omega)).trans hA⟩
theorem Kc.putObj {n₀ m : Nat} {w W : World} (hn : n₀ ≤ w.heap.size) (l : Nat) (o o' : Obj) (hl : w.heap.size ≤ l) (h : W.heap[l]? = some o) (hc : o.isCells = false) : Kc n₀ m W (W.putObj l o') :=
  ⟨(Below.refl n₀ W).grown (grownBy_putObj' W l o') (by have := (Array.getElem?_eq_some_iff.1 h).1; omega) (fun k e => by cases e; omega), fun k cs t f hk hA => by
    by_cases hkl : k = l
    · subst hkl
      rw [h] at hA
      cases hA
      cases hc
    · exact (World.putObj_heap_other hkl).trans hA⟩
theorem Kc.ten {n₀ m : Nat} {A B : World} (h : Kc n₀ m A B) {g : Nat} {r : Raw} (hg : m ≤ g)
    (hA : A.heap[g]? = some (.cells #[.int .u8 r.k, .int .i64 r.t, .int .u8 r.ao, .int .i64 r.an, .slice r.aA r.al r.ac, .int .u8 r.bo, .int .i64 r.bn, .slice r.bA r.bl r.bc, .slice r.yA r.yl r.yc, .slice r.eA r.el r.ec] 39 (0, 0))) :
    B.heap[g]? = some (.cells #[.int .u8 r.k, .int .i64 r.t, .int .u8 r.ao, .int .i64 r.an, .slice r.aA r.al r.ac, .int .u8 r.bo, .int .i64 r.bn, .slice r.bA r.bl r.bc, .slice r.yA r.yl r.yc, .slice r.eA r.el r.ec] 39 (0, 0)) := h.high g _ _ _ hg hA
/-- What comes: how deep; a statement that lies in w. -/
structure El (w : World) (hi D : Nat) (Pr : St → Prop) where
  deep : Nat
  r : Raw
  s : St
  small : deep ≤ 4611686018427387904
  at_ : SAt w 0 hi D r s
  pr : Pr s
def El.key {w : World} {hi D : Nat} {Pr : St → Prop} (x : El w hi D Pr) : Nat × St := (x.deep, x.s)
def elV {w : World} {hi D : Nat} {Pr : St → Prop} (x : El w hi D Pr) : Array Value := #[.int .i64 x.deep, x.r.v]

theorem cell_row {W : World} {g : Nat} {cs : Array Value} {t : TypeId} (h : W.heap[g]? = some (.cells cs t (0, 0))) (i : Nat) : W.cell? ⟨g, i, none⟩ = cs[i]? := by simp [World.cell?, h]

set_option maxRecDepth 100000 in
set_option maxHeartbeats 4000000 in
theorem tell_in (F : Fence) (hd : F.depth = none) (hf : F.fn 67) (hro : F.round = none) (l n₀ m N D : Nat) (Pr : St → Prop) (w : World) (J Jx : List (El w n₀ D Pr) → World → Prop) (hJa : ∀ s W o, J s W → J s (W.alloc o))
    (hY : ∀ k pre (x : El w n₀ D Pr) W, J pre W → pre.length < N → YieldAt F k Tryd.prog l (elV x) W fun e W' => (e = .returned (.bool true) ∧ J (pre ++ [x]) W' ∧ Kc n₀ m W W') ∨ (e = .returned (.bool false) ∧ Jx (pre ++ [x]) W')) :
    ∀ (d : Nat), d ≤ D → ∀ (deep : Nat) (tx : List St) (A : Option Addr) (c n : Nat) (pre : List (El w n₀ D Pr)) (W : World), SKids w 0 n₀ d A tx → (∀ y ∈ tx.flatMap (flatS d deep), Pr y.2) → tx.length ≤ 9223372036854775807 → deep + d ≤ 4611686018427387904 → Below n₀ w W → m ≤ W.heap.size → n₀ ≤ W.heap.size → J pre W → pre.length + (tx.flatMap (flatS d deep)).length ≤ N →
      CallsIn F n Tryd.prog 67 #[.slice A tx.length c, .int .i64 deep, .func (.yield l) #[] #[]] W fun e W' =>
        (e = .returned (.bool true) ∧ ∃ ys, ys.map El.key = tx.flatMap (flatS d deep) ∧ J (pre ++ ys) W' ∧ Kc n₀ m W W') ∨ (e = .returned (.bool false) ∧ ∃ ys, ys.map El.key <+: tx.flatMap (flatS d deep) ∧ Jx (pre ++ ys) W') := by
  intro d
  induction d with
  | zero =>
    intro _ deep tx A c n pre W hk _ hl hdp hw hm hn hJ hN
    have h0 : tx = [] := by
      cases tx with
      | nil => rfl
      | cons s r =>
        obtain ⟨p, q, _, _, _, _, hs⟩ := hk 0 (by simp)
        exact hs.elim
    subst h0
    refine callsIn_of_wp Tryd.func67 rfl hf ?_ hro
    simp only [Tryd.ntmps67, List.size_toArray, List.length_cons, List.length_nil, Nat.reduceAdd, Nat.reduceSub, Array.replicate_succ, Array.replicate_zero, List.push_toArray, List.append_toArray, List.nil_append, List.cons_append]
    have HJ := Lib.hid hJ
    clear hY hJa hJ hk
    gi_wp2
    gi_loopw [11] (fun i wr => i = .int .i64 0 ∧ wr = W) (fun i _ => 0)
    case atStart => exact ⟨rfl, rfl⟩
    case round =>
      obtain ⟨rfl, rfl⟩ := hrel
      gi_wp2
      go_ret
      exact .inl ⟨rfl, [], rfl, by simpa using HJ.out, Kc.refl _ _ _⟩
  | succ d ih =>
    intro hD deep tx A c n pre W hk hP hl hdp hw hm hn hJ hN
    have hdd : ∀ k : Nat, (F.depth.isSome = true → 1 ≤ k) := fun k h => by rw [hd] at h; cases h
    have IH := Lib.hid (ih (by omega))
    have HJA := Lib.hid hJa
    have HY := Lib.hid hY
    have HK := Lib.hid hk
    have HJ0 := Lib.hid hJ
    have HN := Lib.hid hN
    have hd1 : deep ≤ 4611686018427387904 := by omega
    have HDP := Lib.hid hdp
    have HP := Lib.hid hP
    clear ih hJa hY hk hJ hN hdp hP
    refine callsIn_of_wp Tryd.func67 rfl hf ?_ hro
    simp only [Tryd.ntmps67, List.size_toArray, List.length_cons, List.length_nil, Nat.reduceAdd, Nat.reduceSub, Array.replicate_succ, Array.replicate_zero, List.push_toArray, List.append_toArray, List.nil_append, List.cons_append]
    gi_wp2
    gi_loopw [11] (fun i wr => ∃ (k : Nat) (ys : List (El w n₀ D Pr)), k ≤ tx.length ∧ i = .int .i64 k ∧ Hid (ys.map El.key = (tx.take k).flatMap (flatS (d + 1) deep)) ∧ Hid (J (pre ++ ys) wr) ∧ Hid (Kc n₀ m W wr)) (fun i _ => tx.length - (intOf i).toNat)
    case atStart => exact ⟨0, [], by omega, rfl, rfl, by show J _ _; simpa using HJ0.out, Kc.refl _ _ _⟩
    case round =>
      obtain ⟨k, ys, hkl, rfl, hys, hJ1, hkc⟩ := hrel
      by_cases hlt : k < tx.length
      · obtain ⟨p, q, rfl, m1, m2, ht, hs⟩ := HK.out k hlt
        have hwr : Below n₀ w wr := hw.trans hkc.out.low
        have hz : W.heap.size ≤ wr.heap.size := hkc.out.low.size
        have ht' := ht.below hwr (by rw [ad_block]; exact m2)
        have hst := flat_take (flatS (d + 1) deep) tx k hlt
        have hfull : tx.flatMap (flatS (d + 1) deep) = (tx.take (k + 1)).flatMap (flatS (d + 1) deep) ++ (tx.drop (k + 1)).flatMap (flatS (d + 1) deep) := by rw [← List.flatMap_append, List.take_append_drop]
        have hpr : Pr tx[k] := HP.out (deep, tx[k]) (List.mem_flatMap.2 ⟨tx[k], List.getElem_mem hlt, by cases tx[k]; rw [flatS]; exact List.mem_cons_self⟩)
        obtain ⟨s, hsx⟩ : ∃ s, s = tx[k] := ⟨_, rfl⟩
        rw [← hsx] at hs hst hpr
        obtain ⟨x, hx⟩ : ∃ x : El w n₀ D Pr, x = ⟨deep, q, s, hd1, hs.more _ _ hD, hpr⟩ := ⟨_, rfl⟩
        have hxk : x.key = (deep, s) := by rw [hx]; rfl
        have hxv : elV x = #[.int .i64 deep, q.v] := by rw [hx]; rfl
        clear hx
        obtain ⟨sk, st, sa, sb, sy, se⟩ := s
        obtain ⟨⟨e1, e2, e3, e4⟩, ⟨_, _, _, q4, q5⟩, _, _, hsy, hse⟩ := hs.open_
        rw [flatS] at hst
        rw [hst] at hfull
        obtain ⟨W1, hW1⟩ : ∃ W1, W1 = wr.alloc (.cells #[.int .u8 q.k, .int .i64 q.t, .int .u8 q.ao, .int .i64 q.an, .slice q.aA q.al q.ac, .int .u8 q.bo, .int .i64 q.bn, .slice q.bA q.bl q.bc, .slice q.yA q.yl q.yc, .slice q.eA q.el q.ec] 39) := ⟨_, rfl⟩
        have hbx : W1.heap[wr.heap.size]? = some (.cells #[.int .u8 q.k, .int .i64 q.t, .int .u8 q.ao, .int .i64 q.an, .slice q.aA q.al q.ac, .int .u8 q.bo, .int .i64 q.bn, .slice q.bA q.bl q.bc, .slice q.yA q.yl q.yc, .slice q.eA q.el q.ec] 39 (0, 0)) := by rw [hW1]; exact World.alloc_heap_new wr _
        have hk1 : Kc n₀ m wr W1 := by rw [hW1]; exact Kc.alloc _ (by omega)
        have hz1 : wr.heap.size ≤ W1.heap.size := hk1.low.size
        have hlen := congrArg List.length hys.out
        rw [List.length_map] at hlen
        have hNN := HN.out
        rw [hfull] at hNN
        simp only [List.length_append, List.length_cons] at hNN
        have hrest : ∀ (W2 : World), Kc n₀ m W1 W2 → Below n₀ w W2 ∧ m ≤ W2.heap.size ∧ n₀ ≤ W2.heap.size := fun W2 h2 => ⟨(hwr.trans hk1.low).trans h2.low, by have := h2.low.size; omega, by have := h2.low.size; omega⟩
        have h3 : ∀ (W2 W3 : World) (zs : List (El w n₀ D Pr)), Kc n₀ m W1 W2 → Kc n₀ m W2 W3 → zs.map El.key = sy.flatMap (flatS d (deep + 1)) → J (pre ++ ys ++ [x] ++ zs) W3 →
            CallsIn F (n - 1) Tryd.prog 67 #[.slice q.eA q.el q.ec, .int .i64 (deep + 1), .func (.yield l) #[] #[]] W3 fun e W4 =>
              (e = .returned (.bool true) ∧ Hid (∃ ys', ys'.map El.key = (tx.take (k + 1)).flatMap (flatS (d + 1) deep) ∧ J (pre ++ ys') W4 ∧ Kc n₀ m W W4)) ∨ (e = .returned (.bool false) ∧ Hid (∃ ys', ys'.map El.key <+: tx.flatMap (flatS (d + 1) deep) ∧ Jx (pre ++ ys') W4)) := fun W2 W3 zs k2 k3 hzs hJ3 => by
          obtain ⟨r1, r2, r3⟩ := hrest W3 (k2.trans k3)
          have hzl := congrArg List.length hzs
          rw [List.length_map] at hzl
          rw [e4]
          refine (IH.out (deep + 1) se q.eA q.ec (n - 1) _ W3 hse (fun y hy => HP.out y (by rw [hfull]; simp [hy])) q5 (by have := HDP.out; omega) r1 r2 r3 hJ3 (by simp only [List.length_append, List.length_cons, List.length_nil]; omega)).mono fun e W4 h => ?_
          rcases h with ⟨he, us, hu, hJ4, k4⟩ | ⟨he, us, hu, hJ4⟩
          · refine .inl ⟨he, ys ++ [x] ++ zs ++ us, ?_, by simpa only [List.append_assoc] using hJ4, ((hkc.out.trans hk1).trans (k2.trans k3)).trans k4⟩
            rw [hst, List.map_append, List.map_append, List.map_append, hys.out, hzs, hu, List.map_cons, hxk]
            simp
          · refine .inr ⟨he, ys ++ [x] ++ zs ++ us, ?_, by simpa only [List.append_assoc] using hJ4⟩
            rw [hfull, List.map_append, List.map_append, List.map_append, hys.out, hzs, List.map_cons, hxk]
            obtain ⟨v, hv⟩ := hu
            exact ⟨v ++ (tx.drop (k + 1)).flatMap (flatS (d + 1) deep), by rw [← hv]; simp⟩
        have h2 : ∀ (W2 : World), Kc n₀ m W1 W2 → J (pre ++ ys ++ [x]) W2 →
            CallsIn F (n - 1) Tryd.prog 67 #[.slice q.yA q.yl q.yc, .int .i64 (deep + 1), .func (.yield l) #[] #[]] W2 fun e W3 =>
              (e = .returned (.bool true) ∧ W3.cell? ⟨wr.heap.size, 9, none⟩ = some (.slice q.eA q.el q.ec) ∧ CallsIn F (n - 1) Tryd.prog 67 #[.slice q.eA q.el q.ec, .int .i64 (deep + 1), .func (.yield l) #[] #[]] W3 fun e W4 =>
              (e = .returned (.bool true) ∧ Hid (∃ ys', ys'.map El.key = (tx.take (k + 1)).flatMap (flatS (d + 1) deep) ∧ J (pre ++ ys') W4 ∧ Kc n₀ m W W4)) ∨ (e = .returned (.bool false) ∧ Hid (∃ ys', ys'.map El.key <+: tx.flatMap (flatS (d + 1) deep) ∧ Jx (pre ++ ys') W4))) ∨
              (e = .returned (.bool false) ∧ Hid (∃ ys', ys'.map El.key <+: tx.flatMap (flatS (d + 1) deep) ∧ Jx (pre ++ ys') W3)) := fun W2 k2 hJ2 => by
          obtain ⟨r1, r2, r3⟩ := hrest W2 k2
          rw [e3]
          refine (IH.out (deep + 1) sy q.yA q.yc (n - 1) _ W2 hsy (fun y hy => HP.out y (by rw [hfull]; simp [hy])) q4 (by have := HDP.out; omega) r1 r2 r3 hJ2 (by simp only [List.length_append, List.length_cons, List.length_nil]; omega)).mono fun e W3 h => ?_
          rcases h with ⟨he, zs, hu, hJ3, k3⟩ | ⟨he, zs, hu, hJ3⟩
          · exact .inl ⟨he, cell_row ((k2.trans k3).ten (by omega) hbx) 9, h3 W2 W3 zs k2 k3 hu hJ3⟩
          · refine .inr ⟨he, ys ++ [x] ++ zs, ?_, by simpa only [List.append_assoc] using hJ3⟩
            rw [hfull, List.map_append, List.map_append, hys.out, List.map_cons, hxk]
            obtain ⟨v, hv⟩ := hu
            exact ⟨v ++ (se.flatMap (flatS d (deep + 1)) ++ (tx.drop (k + 1)).flatMap (flatS (d + 1) deep)), by rw [← hv]; simp⟩
        have h1 : YieldAt F (n - 1) Tryd.prog l #[.int .i64 deep, q.v] W1 fun e W2 =>
            (e = .returned (.bool true) ∧ W2.cell? ⟨wr.heap.size, 8, none⟩ = some (.slice q.yA q.yl q.yc) ∧ CallsIn F (n - 1) Tryd.prog 67 #[.slice q.yA q.yl q.yc, .int .i64 (deep + 1), .func (.yield l) #[] #[]] W2 fun e W3 =>
              (e = .returned (.bool true) ∧ W3.cell? ⟨wr.heap.size, 9, none⟩ = some (.slice q.eA q.el q.ec) ∧ CallsIn F (n - 1) Tryd.prog 67 #[.slice q.eA q.el q.ec, .int .i64 (deep + 1), .func (.yield l) #[] #[]] W3 fun e W4 =>
              (e = .returned (.bool true) ∧ Hid (∃ ys', ys'.map El.key = (tx.take (k + 1)).flatMap (flatS (d + 1) deep) ∧ J (pre ++ ys') W4 ∧ Kc n₀ m W W4)) ∨ (e = .returned (.bool false) ∧ Hid (∃ ys', ys'.map El.key <+: tx.flatMap (flatS (d + 1) deep) ∧ Jx (pre ++ ys') W4))) ∨
              (e = .returned (.bool false) ∧ Hid (∃ ys', ys'.map El.key <+: tx.flatMap (flatS (d + 1) deep) ∧ Jx (pre ++ ys') W3))) ∨
            (e = .returned (.bool false) ∧ Hid (∃ ys', ys'.map El.key <+: tx.flatMap (flatS (d + 1) deep) ∧ Jx (pre ++ ys') W2)) := by
          rw [← hxv]
          refine (HY.out (n - 1) (pre ++ ys) x W1 (by rw [hW1]; exact HJA.out _ _ _ hJ1.out) (by simp only [List.length_append]; omega)).mono fun e W2 h => ?_
          rcases h with ⟨he, hJ2, k2⟩ | ⟨he, hJ2⟩
          · exact .inl ⟨he, cell_row (k2.ten (by omega) hbx) 8, h2 W2 k2 hJ2⟩
          · refine .inr ⟨he, ys ++ [x], ?_, by simpa only [List.append_assoc] using hJ2⟩
            rw [hfull, List.map_append, hys.out, List.map_cons, hxk]
            exact ⟨sy.flatMap (flatS d (deep + 1)) ++ se.flatMap (flatS d (deep + 1)) ++ (tx.drop (k + 1)).flatMap (flatS (d + 1) deep), by simp⟩
        obtain ⟨fn, tmps, assign, body, hy, hR⟩ := h1
        have g0 := ht'.c0
        have g1 := ht'.c1
        have g2 := ht'.c2
        have g3 := ht'.c3
        have g4 := ht'.c4
        have g5 := ht'.c5
        have g6 := ht'.c6
        have g7 := ht'.c7
        have g8 := ht'.c8
        have g9 := ht'.c9
        rw [hW1] at hy hR
        clear hpr h2 h3 hrest hNN hlen hbx hk1 hz1 hW1 W1 hfull hst hxk hxv x hsx hs hsy hse ht ht' hwr hz hJ1 hkc hys e1 e2 e3 e4
        obtain ⟨qk, qt, qao, qan, qaA, qal, qac, qbo, qbn, qbA, qbl, qbc, qyA, qyl, qyc, qeA, qel, qec⟩ := q
        dsimp only [Raw.v] at *
        gi_wp2_with (first
          | ((try refine ⟨hdd _, ?_⟩); refine hR.mono ?_; clear hR; rintro e W2 (⟨rfl, c8, hT⟩ | ⟨rfl, hx2⟩))
          | ((try refine ⟨hdd _, ?_⟩); gi_at_call 67; refine hT.mono ?_; clear hT; rintro e W3 (⟨rfl, c9, hU⟩ | ⟨rfl, hx3⟩))
          | ((try refine ⟨hdd _, ?_⟩); gi_at_call 67; refine hU.mono ?_; clear hU; rintro e W4 (⟨rfl, hx4⟩ | ⟨rfl, hx5⟩)))
        · go_roundw
          case rel =>
            obtain ⟨ys', h1, h2, h3⟩ := hx4.out
            exact ⟨k + 1, ys', by omega, by go_num, h1, h2, h3⟩
          case measure => simp [intOf]; omega
        · go_ret
          exact .inr ⟨rfl, hx5.out⟩
        · go_ret
          exact .inr ⟨rfl, hx3.out⟩
        · go_ret
          exact .inr ⟨rfl, hx2.out⟩
      · have hke : tx.take k = tx := List.take_of_length_le (by omega)
        rw [hke] at hys
        clear hke
        gi_wp2
        go_ret
        exact .inl ⟨rfl, ys, hys.out, hJ1.out, hkc.out⟩

set_option maxRecDepth 100000 in
set_option maxHeartbeats 1000000 in
/-- The closure that statements makes. -/
theorem stm1_in (F : Fence) (hd : F.depth = none) (n : Nat) (h27 : F.fn 66) (h28 : F.fn 67) (hro : F.round = none) (l Bt n₀ m D : Nat) (Pr : St → Prop) (w : World) (A : Option Addr) (c : Nat) (tx : List St) (J Jx : List (El w n₀ D Pr) → World → Prop) (hJa : ∀ s W o, J s W → J s (W.alloc o))
    (hY : ∀ pre (x : El w n₀ D Pr) W, J pre W → pre.length < (flat D tx).length → YieldAt F (n - 1) Tryd.prog l (elV x) W fun e W' => (e = .returned (.bool true) ∧ J (pre ++ [x]) W' ∧ Kc n₀ m W W') ∨ (e = .returned (.bool false) ∧ Jx (pre ++ [x]) W'))
    (hk : SKids w 0 n₀ D A tx) (hP : ∀ y ∈ flat D tx, Pr y.2) (hl : tx.length ≤ 9223372036854775807) (hD : D ≤ 4611686018427387903)
    (W : World) (hBt : W.cell? ⟨Bt, 0, none⟩ = some (.slice A tx.length c)) (hw : Below n₀ w W) (hm : m ≤ W.heap.size) (hn : n₀ ≤ W.heap.size) (h0 : J [] W) :
    CallsIn F n Tryd.prog 66 #[.func (.yield l) #[] #[], .pointer (some ⟨Bt, 0, none⟩)] W fun e W' => (∃ v, e = .returned v) ∧
      ((∃ ys, ys.map El.key = flat D tx ∧ J ys W') ∨ (∃ pre, pre.map El.key <+: flat D tx ∧ Jx pre W')) := by
  have hdd : ∀ k : Nat, (F.depth.isSome = true → 1 ≤ k) := fun k h => by rw [hd] at h; cases h
  have hp := tell_in F hd h28 hro l n₀ m (flat D tx).length D Pr w J Jx hJa (fun k pre x W hj hl => YieldAt.anyDepth hd k (hY pre x W hj hl)) D (Nat.le_refl _) 1 tx A c (n - 1) [] W hk hP hl (by omega) hw hm hn h0 (by simp [flat])
  clear hY hk hJa hP
  refine callsIn_of_wp Tryd.func66 rfl h27 ?_ hro
  simp only [Tryd.ntmps66, List.size_toArray, List.length_cons, List.length_nil, Nat.reduceAdd, Nat.reduceSub, Array.replicate_succ, Array.replicate_zero, List.push_toArray, List.append_toArray, List.nil_append, List.cons_append]
  gi_wp2_with ((try refine ⟨hdd _, ?_⟩); gi_at_call 67; refine hp.mono ?_; clear hp; rintro e W1 (⟨rfl, ys, hy, hJ1, _⟩ | ⟨rfl, ys, hy, hx⟩))
  · go_end0
    exact ⟨⟨_, rfl⟩, .inl ⟨ys, hy, by simpa using hJ1⟩⟩
  · go_end0
    exact ⟨⟨_, rfl⟩, .inr ⟨ys, hy, by simpa using hx⟩⟩
set_option maxHeartbeats 1000000 in
theorem stm_in (F : Fence) (n : Nat) (h : F.fn 58) (hro : F.round = none) (A : Option Addr) (k c : Nat) (w : World) :
    CallsIn F n Tryd.prog 58 #[.slice A k c] w fun e w' => e = .returned (.func (.func 66) #[] #[.pointer (some ⟨w.heap.size, 0, none⟩)]) ∧ w' = w.alloc (.cells #[.slice A k c] 34) := by
  refine callsIn_of_wp Tryd.func58 rfl h ?_ hro
  simp only [Tryd.ntmps58, List.size_toArray, List.length_cons, List.length_nil, Nat.reduceAdd, Nat.reduceSub, Array.replicate_succ, Array.replicate_zero, List.push_toArray, List.append_toArray, List.nil_append, List.cons_append]
  gi_wp2
  go_ret
  exact ⟨rfl, rfl⟩
/-- What statements hands back: all statements, or a beginning of them. w: where the loop begins; w0: where the tree was read. -/
theorem stm_stops (F : Fence) (hd : F.depth = none) (n : Nat) (h27 : F.fn 66) (h28 : F.fn 67) (hro : F.round = none) (Bt n₀ D : Nat) (Pr : St → Prop) (w0 w : World) (A : Option Addr) (c : Nat) (tx : List St) (hBt : Bt < w.heap.size) (hn₀ : n₀ ≤ w.heap.size)
    (hc : w.cell? ⟨Bt, 0, none⟩ = some (.slice A tx.length c)) (hk : SKids w0 0 n₀ D A tx) (hP : ∀ y ∈ flat D tx, Pr y.2) (hw0 : Below n₀ w0 w) (hl : tx.length ≤ 9223372036854775807) (hD : D ≤ 4611686018427387903) :
    SeqStopsK F n Tryd.prog 66 #[.pointer (some ⟨Bt, 0, none⟩)] (elV (w := w0) (hi := n₀) (D := D) (Pr := Pr)) (Kc n₀ w.heap.size) (fun ys => ys.map El.key = flat D tx) (fun ys => ys.map El.key <+: flat D tx) (flat D tx).length w := fun l J Jx W hW hJ _ hY h0 =>
  stm1_in F hd n h27 h28 hro l Bt n₀ w.heap.size D Pr w0 A c tx J Jx (fun s W o h => hJ s W _ none h (World.grownBy_alloc W o none) (fun r e => by cases e)) hY hk hP hl hD W ((hW.cell (p := ⟨Bt, 0, none⟩) hBt).trans hc) (hw0.trans (hW.mono hn₀)) hW.size (Nat.le_trans hn₀ hW.size) h0
end Go.Proofs.YtnkdaehmdcpafaaDoor
