/-
  SEVERAL TEXTS IN ONE (a claim has sixty files at most): Ct, Cd, Cc, Ri, Rd, Cn, Rg, Ch, Sh, Ci, Co, Ck, Cq: the head of each stands ahead of it. No condition but theirs.
-/
import Derived.Test.YthdcdffdpdoeoaaGreatDoorCm
import Derived.RangeFuncNested
import Derived.RangeFuncBound
import Derived.RangeFuncCalls
import Derived.RangeFuncLeaves
import Derived.Shelf.Abstract
import Derived.Shelf.RegionOpen
import Derived.OwnWalkIn
import Derived.TacticsInMore
import Derived.LoopNIn
import Derived.LoopIn
import Derived.Test.YthdcdffdpdoeoaaGreatDoorDy
import Derived.Test.YthdcdffdpdoeoaaGreatDoorRows
import Derived.Orders
import Derived.Below
import Derived.WalkKit
import Derived.OrdersIn
import Derived.Laws.StructEq
import Derived.Deep.RegionHeld3
import Derived.Deep.DeepCutAuto
import Derived.Deep.CutBlock
import Derived.Test.YthdcdffdpdoeoaaGreatDoorEv
import Derived.Test.YthdcdffdpdoeoaaGreatDoorEb
import Derived.LoopTactic
import Derived.Handy
import Derived.WalkLawsBesides
import Derived.WalkSpells
/-
  CONTRACTS OF PACKAGE code's tell, statements and its closure: the iterator over all statements of a transaction, each with how deep it stands: it hands on all of them, in their order, or a beginning of them, if a round says no more; a round must keep what lay below n₀, and all blocks of cells from m on. Conditions: as they stand.
-/
namespace Go.Proofs.YthdcdffdpdoeoaaGreatDoor
set_option maxRecDepth 100000
open Go.RowKit Go.Shelf
set_option linter.unusedVariables false
attribute [local go_sem] Oper.semAt_some

theorem room_of_none {F : Fence} (hd : F.depth = none) (k : Nat) : F.room k := fun d h => by rw [hd] at h; cases h
theorem RoundIn.anyDepth {F : Fence} (hd : F.depth = none) {m m' : Nat} {P : Program} {l : Nat} {f : FuncId} {tmps : Array Value} {assign body : Code} {w : World} {R : Ending → World → Prop}
    (h : RoundIn F m P l f tmps assign body w R) : RoundIn F m' P l f tmps assign body w R := ⟨h.1, fun c cs _ => h.2 c cs (room_of_none hd _)⟩
theorem YieldAt.anyDepth {F : Fence} (hd : F.depth = none) {m : Nat} (m' : Nat) {P : Program} {l : Nat} {args : Array Value} {W : World} {R : Ending → World → Prop} (h : YieldAt F m P l args W R) : YieldAt F m' P l args W R := by
  obtain ⟨fn, tmps, assign, body, hy, hR⟩ := h
  exact ⟨fn, tmps, assign, body, hy, RoundIn.anyDepth hd hR⟩

/-- What a round keeps: what lay below n₀, and the blocks of cells from m on. -/
structure Kc (n₀ m : Nat) (W W' : World) : Prop where
  low : Below n₀ W W'
  high : ∀ i cs t f, m ≤ i → W.heap[i]? = some (.cells cs t f) → W'.heap[i]? = some (.cells cs t f)
theorem Kc.refl (n₀ m : Nat) (W : World) : Kc n₀ m W W := ⟨Below.refl _ _, fun _ _ _ _ _ h => h⟩
theorem Kc.trans {n₀ m : Nat} {A B C : World} (h : Kc n₀ m A B) (k : Kc n₀ m B C) : Kc n₀ m A C := ⟨h.low.trans k.low, fun i cs t f hi hA => k.high i cs t f hi (h.high i cs t f hi hA)⟩
theorem Kc.of_below {n₀ m : Nat} {A B : World} (h : Below A.heap.size A B) (hn : n₀ ≤ A.heap.size) : Kc n₀ m A B := ⟨h.mono hn, fun i cs t f hi hA => (h.block i (Array.getElem?_eq_some_iff.1 hA).1).trans hA⟩
theorem Kc.alloc {n₀ m : Nat} {A : World} (o : Obj) (hn : n₀ ≤ A.heap.size) : Kc n₀ m A (A.alloc o) := .of_below ((Below.refl _ _).alloc (Nat.le_refl _) o) hn
theorem Kc.drew {n₀ m : Nat} {A : World} : Kc n₀ m A A.drew := ⟨(Below.refl _ _).drew, fun _ _ _ _ _ h => h⟩
theorem Kc.set {n₀ m : Nat} {A : World} {g i : Nat} (u : Value) (h1 : n₀ ≤ g) (h2 : g < m) : Kc n₀ m A (A.setCell ⟨g, i, none⟩ u) :=
  ⟨(Below.refl n₀ A).setCell (p := ⟨g, i, none⟩) h1 u, fun k cs t f hk hA => (Below.heap_setCell A ⟨g, i, none⟩ u k (by show k ≠ g; omega)).trans hA⟩
theorem Kc.putObj {n₀ m : Nat} {w W : World} (hn : n₀ ≤ w.heap.size) (l : Nat) (o o' : Obj) (hl : w.heap.size ≤ l) (h : W.heap[l]? = some o) (hc : o.isCells = false) : Kc n₀ m W (W.putObj l o') :=
  ⟨(Below.refl n₀ W).grown (grownBy_putObj' W l o') (by have := (Array.getElem?_eq_some_iff.1 h).1; omega) (fun k e => by cases e; omega), fun k cs t f hk hA => by
    by_cases hkl : k = l
    · subst hkl
      rw [h] at hA
      cases hA
      cases hc
    · exact (World.putObj_heap_other hkl).trans hA⟩
theorem Kc.ten {n₀ m : Nat} {A B : World} (h : Kc n₀ m A B) {g : Nat} {r : Raw} (hg : m ≤ g)
    (hA : A.heap[g]? = some (.cells #[.int .u8 r.k, .int .i64 r.t, .int .u8 r.ao, .int .i64 r.an, .slice r.aA r.al r.ac, .int .u8 r.bo, .int .i64 r.bn, .slice r.bA r.bl r.bc, .slice r.yA r.yl r.yc, .slice r.eA r.el r.ec] 43 (0, 0))) :
    B.heap[g]? = some (.cells #[.int .u8 r.k, .int .i64 r.t, .int .u8 r.ao, .int .i64 r.an, .slice r.aA r.al r.ac, .int .u8 r.bo, .int .i64 r.bn, .slice r.bA r.bl r.bc, .slice r.yA r.yl r.yc, .slice r.eA r.el r.ec] 43 (0, 0)) := h.high g _ _ _ hg hA
/-- What comes: how deep; a statement that lies in w. -/
structure El (w : World) (hi D : Nat) (Pr : St → Prop) where
  deep : Nat
  r : Raw
  s : St
  small : deep ≤ 4611686018427387904
  at_ : SAt w 0 hi D r s
  pr : Pr s
def El.key {w : World} {hi D : Nat} {Pr : St → Prop} (x : El w hi D Pr) : Nat × St := (x.deep, x.s)
def elV {w : World} {hi D : Nat} {Pr : St → Prop} (x : El w hi D Pr) : Array Value := #[.int .i64 x.deep, x.r.v]

theorem cell_row {W : World} {g : Nat} {cs : Array Value} {t : TypeId} (h : W.heap[g]? = some (.cells cs t (0, 0))) (i : Nat) : W.cell? ⟨g, i, none⟩ = cs[i]? := by simp [World.cell?, h]

set_option maxRecDepth 100000 in
set_option maxHeartbeats 4000000 in
theorem tell_in (F : Fence) (hd : F.depth = none) (hf : F.fn 90) (hro : F.round = none) (l n₀ m N D : Nat) (Pr : St → Prop) (w : World) (J Jx : List (El w n₀ D Pr) → World → Prop) (hJa : ∀ s W o, J s W → J s (W.alloc o))
    (hY : ∀ k pre (x : El w n₀ D Pr) W, J pre W → pre.length < N → YieldAt F k Tryz.prog l (elV x) W fun e W' => (e = .returned (.bool true) ∧ J (pre ++ [x]) W' ∧ Kc n₀ m W W') ∨ (e = .returned (.bool false) ∧ Jx (pre ++ [x]) W')) :
    ∀ (d : Nat), d ≤ D → ∀ (deep : Nat) (tx : List St) (A : Option Addr) (c n : Nat) (pre : List (El w n₀ D Pr)) (W : World), SKids w 0 n₀ d A tx → (∀ y ∈ tx.flatMap (flatS d deep), Pr y.2) → tx.length ≤ 9223372036854775807 → deep + d ≤ 4611686018427387904 → Below n₀ w W → m ≤ W.heap.size → n₀ ≤ W.heap.size → J pre W → pre.length + (tx.flatMap (flatS d deep)).length ≤ N →
      CallsIn F n Tryz.prog 90 #[.slice A tx.length c, .int .i64 deep, .func (.yield l) #[] #[]] W fun e W' =>
        (e = .returned (.bool true) ∧ ∃ ys, ys.map El.key = tx.flatMap (flatS d deep) ∧ J (pre ++ ys) W' ∧ Kc n₀ m W W') ∨ (e = .returned (.bool false) ∧ ∃ ys, ys.map El.key <+: tx.flatMap (flatS d deep) ∧ Jx (pre ++ ys) W') := by
  intro d
  induction d with
  | zero =>
    intro _ deep tx A c n pre W hk _ hl hdp hw hm hn hJ hN
    have h0 : tx = [] := by
      cases tx with
      | nil => rfl
      | cons s r =>
        obtain ⟨p, q, _, _, _, _, hs⟩ := hk 0 (by simp)
        exact hs.elim
    subst h0
    refine callsIn_of_wp Tryz.func90 rfl hf ?_ hro
    simp only [Tryz.ntmps90, List.size_toArray, List.length_cons, List.length_nil, Nat.reduceAdd, Nat.reduceSub, Array.replicate_succ, Array.replicate_zero, List.push_toArray, List.append_toArray, List.nil_append, List.cons_append]
    have HJ := Lib.hid hJ
    clear hY hJa hJ hk
    gi_wp2
    gi_loopw [11] (fun i wr => i = .int .i64 0 ∧ wr = W) (fun i _ => 0)
    case atStart => exact ⟨rfl, rfl⟩
    case round =>
      obtain ⟨rfl, rfl⟩ := hrel
      gi_wp2
      go_ret
      exact .inl ⟨rfl, [], rfl, by simpa using HJ.out, Kc.refl _ _ _⟩
  | succ d ih =>
    intro hD deep tx A c n pre W hk hP hl hdp hw hm hn hJ hN
    have hdd : ∀ k : Nat, (F.depth.isSome = true → 1 ≤ k) := fun k h => by rw [hd] at h; cases h
    have IH := Lib.hid (ih (by omega))
    have HJA := Lib.hid hJa
    have HY := Lib.hid hY
    have HK := Lib.hid hk
    have HJ0 := Lib.hid hJ
    have HN := Lib.hid hN
    have hd1 : deep ≤ 4611686018427387904 := by omega
    have HDP := Lib.hid hdp
    have HP := Lib.hid hP
    clear ih hJa hY hk hJ hN hdp hP
    refine callsIn_of_wp Tryz.func90 rfl hf ?_ hro
    simp only [Tryz.ntmps90, List.size_toArray, List.length_cons, List.length_nil, Nat.reduceAdd, Nat.reduceSub, Array.replicate_succ, Array.replicate_zero, List.push_toArray, List.append_toArray, List.nil_append, List.cons_append]
    gi_wp2
    gi_loopw [11] (fun i wr => ∃ (k : Nat) (ys : List (El w n₀ D Pr)), k ≤ tx.length ∧ i = .int .i64 k ∧ Hid (ys.map El.key = (tx.take k).flatMap (flatS (d + 1) deep)) ∧ Hid (J (pre ++ ys) wr) ∧ Hid (Kc n₀ m W wr)) (fun i _ => tx.length - (intOf i).toNat)
    case atStart => exact ⟨0, [], by omega, rfl, rfl, by show J _ _; simpa using HJ0.out, Kc.refl _ _ _⟩
    case round =>
      obtain ⟨k, ys, hkl, rfl, hys, hJ1, hkc⟩ := hrel
      by_cases hlt : k < tx.length
      · obtain ⟨p, q, rfl, m1, m2, ht, hs⟩ := HK.out k hlt
        have hwr : Below n₀ w wr := hw.trans hkc.out.low
        have hz : W.heap.size ≤ wr.heap.size := hkc.out.low.size
        have ht' := ht.below hwr (by rw [ad_block]; exact m2)
        have hst := flat_take (flatS (d + 1) deep) tx k hlt
        have hfull : tx.flatMap (flatS (d + 1) deep) = (tx.take (k + 1)).flatMap (flatS (d + 1) deep) ++ (tx.drop (k + 1)).flatMap (flatS (d + 1) deep) := by rw [← List.flatMap_append, List.take_append_drop]
        have hpr : Pr tx[k] := HP.out (deep, tx[k]) (List.mem_flatMap.2 ⟨tx[k], List.getElem_mem hlt, by cases tx[k]; rw [flatS]; exact List.mem_cons_self⟩)
        obtain ⟨s, hsx⟩ : ∃ s, s = tx[k] := ⟨_, rfl⟩
        rw [← hsx] at hs hst hpr
        obtain ⟨x, hx⟩ : ∃ x : El w n₀ D Pr, x = ⟨deep, q, s, hd1, hs.more _ _ hD, hpr⟩ := ⟨_, rfl⟩
        have hxk : x.key = (deep, s) := by rw [hx]; rfl
        have hxv : elV x = #[.int .i64 deep, q.v] := by rw [hx]; rfl
        clear hx
        obtain ⟨sk, st, sa, sb, sy, se⟩ := s
        obtain ⟨⟨e1, e2, e3, e4⟩, ⟨_, _, _, q4, q5⟩, _, _, hsy, hse⟩ := hs.open_
        rw [flatS] at hst
        rw [hst] at hfull
        obtain ⟨W1, hW1⟩ : ∃ W1, W1 = wr.alloc (.cells #[.int .u8 q.k, .int .i64 q.t, .int .u8 q.ao, .int .i64 q.an, .slice q.aA q.al q.ac, .int .u8 q.bo, .int .i64 q.bn, .slice q.bA q.bl q.bc, .slice q.yA q.yl q.yc, .slice q.eA q.el q.ec] 43) := ⟨_, rfl⟩
        have hbx : W1.heap[wr.heap.size]? = some (.cells #[.int .u8 q.k, .int .i64 q.t, .int .u8 q.ao, .int .i64 q.an, .slice q.aA q.al q.ac, .int .u8 q.bo, .int .i64 q.bn, .slice q.bA q.bl q.bc, .slice q.yA q.yl q.yc, .slice q.eA q.el q.ec] 43 (0, 0)) := by rw [hW1]; exact World.alloc_heap_new wr _
        have hk1 : Kc n₀ m wr W1 := by rw [hW1]; exact Kc.alloc _ (by omega)
        have hz1 : wr.heap.size ≤ W1.heap.size := hk1.low.size
        have hlen := congrArg List.length hys.out
        rw [List.length_map] at hlen
        have hNN := HN.out
        rw [hfull] at hNN
        simp only [List.length_append, List.length_cons] at hNN
        have hrest : ∀ (W2 : World), Kc n₀ m W1 W2 → Below n₀ w W2 ∧ m ≤ W2.heap.size ∧ n₀ ≤ W2.heap.size := fun W2 h2 => ⟨(hwr.trans hk1.low).trans h2.low, by have := h2.low.size; omega, by have := h2.low.size; omega⟩
        have h3 : ∀ (W2 W3 : World) (zs : List (El w n₀ D Pr)), Kc n₀ m W1 W2 → Kc n₀ m W2 W3 → zs.map El.key = sy.flatMap (flatS d (deep + 1)) → J (pre ++ ys ++ [x] ++ zs) W3 →
            CallsIn F (n - 1) Tryz.prog 90 #[.slice q.eA q.el q.ec, .int .i64 (deep + 1), .func (.yield l) #[] #[]] W3 fun e W4 =>
              (e = .returned (.bool true) ∧ Hid (∃ ys', ys'.map El.key = (tx.take (k + 1)).flatMap (flatS (d + 1) deep) ∧ J (pre ++ ys') W4 ∧ Kc n₀ m W W4)) ∨ (e = .returned (.bool false) ∧ Hid (∃ ys', ys'.map El.key <+: tx.flatMap (flatS (d + 1) deep) ∧ Jx (pre ++ ys') W4)) := fun W2 W3 zs k2 k3 hzs hJ3 => by
          obtain ⟨r1, r2, r3⟩ := hrest W3 (k2.trans k3)
          have hzl := congrArg List.length hzs
          rw [List.length_map] at hzl
          rw [e4]
          refine (IH.out (deep + 1) se q.eA q.ec (n - 1) _ W3 hse (fun y hy => HP.out y (by rw [hfull]; simp [hy])) q5 (by have := HDP.out; omega) r1 r2 r3 hJ3 (by simp only [List.length_append, List.length_cons, List.length_nil]; omega)).mono fun e W4 h => ?_
          rcases h with ⟨he, us, hu, hJ4, k4⟩ | ⟨he, us, hu, hJ4⟩
          · refine .inl ⟨he, ys ++ [x] ++ zs ++ us, ?_, by simpa only [List.append_assoc] using hJ4, ((hkc.out.trans hk1).trans (k2.trans k3)).trans k4⟩
            rw [hst, List.map_append, List.map_append, List.map_append, hys.out, hzs, hu, List.map_cons, hxk]
            simp
          · refine .inr ⟨he, ys ++ [x] ++ zs ++ us, ?_, by simpa only [List.append_assoc] using hJ4⟩
            rw [hfull, List.map_append, List.map_append, List.map_append, hys.out, hzs, List.map_cons, hxk]
            obtain ⟨v, hv⟩ := hu
            exact ⟨v ++ (tx.drop (k + 1)).flatMap (flatS (d + 1) deep), by rw [← hv]; simp⟩
        have h2 : ∀ (W2 : World), Kc n₀ m W1 W2 → J (pre ++ ys ++ [x]) W2 →
            CallsIn F (n - 1) Tryz.prog 90 #[.slice q.yA q.yl q.yc, .int .i64 (deep + 1), .func (.yield l) #[] #[]] W2 fun e W3 =>
              (e = .returned (.bool true) ∧ W3.cell? ⟨wr.heap.size, 9, none⟩ = some (.slice q.eA q.el q.ec) ∧ CallsIn F (n - 1) Tryz.prog 90 #[.slice q.eA q.el q.ec, .int .i64 (deep + 1), .func (.yield l) #[] #[]] W3 fun e W4 =>
              (e = .returned (.bool true) ∧ Hid (∃ ys', ys'.map El.key = (tx.take (k + 1)).flatMap (flatS (d + 1) deep) ∧ J (pre ++ ys') W4 ∧ Kc n₀ m W W4)) ∨ (e = .returned (.bool false) ∧ Hid (∃ ys', ys'.map El.key <+: tx.flatMap (flatS (d + 1) deep) ∧ Jx (pre ++ ys') W4))) ∨
              (e = .returned (.bool false) ∧ Hid (∃ ys', ys'.map El.key <+: tx.flatMap (flatS (d + 1) deep) ∧ Jx (pre ++ ys') W3)) := fun W2 k2 hJ2 => by
          obtain ⟨r1, r2, r3⟩ := hrest W2 k2
          rw [e3]
          refine (IH.out (deep + 1) sy q.yA q.yc (n - 1) _ W2 hsy (fun y hy => HP.out y (by rw [hfull]; simp [hy])) q4 (by have := HDP.out; omega) r1 r2 r3 hJ2 (by simp only [List.length_append, List.length_cons, List.length_nil]; omega)).mono fun e W3 h => ?_
          rcases h with ⟨he, zs, hu, hJ3, k3⟩ | ⟨he, zs, hu, hJ3⟩
          · exact .inl ⟨he, cell_row ((k2.trans k3).ten (by omega) hbx) 9, h3 W2 W3 zs k2 k3 hu hJ3⟩
          · refine .inr ⟨he, ys ++ [x] ++ zs, ?_, by simpa only [List.append_assoc] using hJ3⟩
            rw [hfull, List.map_append, List.map_append, hys.out, List.map_cons, hxk]
            obtain ⟨v, hv⟩ := hu
            exact ⟨v ++ (se.flatMap (flatS d (deep + 1)) ++ (tx.drop (k + 1)).flatMap (flatS (d + 1) deep)), by rw [← hv]; simp⟩
        have h1 : YieldAt F (n - 1) Tryz.prog l #[.int .i64 deep, q.v] W1 fun e W2 =>
            (e = .returned (.bool true) ∧ W2.cell? ⟨wr.heap.size, 8, none⟩ = some (.slice q.yA q.yl q.yc) ∧ CallsIn F (n - 1) Tryz.prog 90 #[.slice q.yA q.yl q.yc, .int .i64 (deep + 1), .func (.yield l) #[] #[]] W2 fun e W3 =>
              (e = .returned (.bool true) ∧ W3.cell? ⟨wr.heap.size, 9, none⟩ = some (.slice q.eA q.el q.ec) ∧ CallsIn F (n - 1) Tryz.prog 90 #[.slice q.eA q.el q.ec, .int .i64 (deep + 1), .func (.yield l) #[] #[]] W3 fun e W4 =>
              (e = .returned (.bool true) ∧ Hid (∃ ys', ys'.map El.key = (tx.take (k + 1)).flatMap (flatS (d + 1) deep) ∧ J (pre ++ ys') W4 ∧ Kc n₀ m W W4)) ∨ (e = .returned (.bool false) ∧ Hid (∃ ys', ys'.map El.key <+: tx.flatMap (flatS (d + 1) deep) ∧ Jx (pre ++ ys') W4))) ∨
              (e = .returned (.bool false) ∧ Hid (∃ ys', ys'.map El.key <+: tx.flatMap (flatS (d + 1) deep) ∧ Jx (pre ++ ys') W3))) ∨
            (e = .returned (.bool false) ∧ Hid (∃ ys', ys'.map El.key <+: tx.flatMap (flatS (d + 1) deep) ∧ Jx (pre ++ ys') W2)) := by
          rw [← hxv]
          refine (HY.out (n - 1) (pre ++ ys) x W1 (by rw [hW1]; exact HJA.out _ _ _ hJ1.out) (by simp only [List.length_append]; omega)).mono fun e W2 h => ?_
          rcases h with ⟨he, hJ2, k2⟩ | ⟨he, hJ2⟩
          · exact .inl ⟨he, cell_row (k2.ten (by omega) hbx) 8, h2 W2 k2 hJ2⟩
          · refine .inr ⟨he, ys ++ [x], ?_, by simpa only [List.append_assoc] using hJ2⟩
            rw [hfull, List.map_append, hys.out, List.map_cons, hxk]
            exact ⟨sy.flatMap (flatS d (deep + 1)) ++ se.flatMap (flatS d (deep + 1)) ++ (tx.drop (k + 1)).flatMap (flatS (d + 1) deep), by simp⟩
        obtain ⟨fn, tmps, assign, body, hy, hR⟩ := h1
        have g0 := ht'.c0
        have g1 := ht'.c1
        have g2 := ht'.c2
        have g3 := ht'.c3
        have g4 := ht'.c4
        have g5 := ht'.c5
        have g6 := ht'.c6
        have g7 := ht'.c7
        have g8 := ht'.c8
        have g9 := ht'.c9
        rw [hW1] at hy hR
        clear hpr h2 h3 hrest hNN hlen hbx hk1 hz1 hW1 W1 hfull hst hxk hxv x hsx hs hsy hse ht ht' hwr hz hJ1 hkc hys e1 e2 e3 e4
        obtain ⟨qk, qt, qao, qan, qaA, qal, qac, qbo, qbn, qbA, qbl, qbc, qyA, qyl, qyc, qeA, qel, qec⟩ := q
        dsimp only [Raw.v] at *
        gi_wp2_with (first
          | ((try refine ⟨hdd _, ?_⟩); refine hR.mono ?_; clear hR; rintro e W2 (⟨rfl, c8, hT⟩ | ⟨rfl, hx2⟩))
          | ((try refine ⟨hdd _, ?_⟩); gi_at_call 90; refine hT.mono ?_; clear hT; rintro e W3 (⟨rfl, c9, hU⟩ | ⟨rfl, hx3⟩))
          | ((try refine ⟨hdd _, ?_⟩); gi_at_call 90; refine hU.mono ?_; clear hU; rintro e W4 (⟨rfl, hx4⟩ | ⟨rfl, hx5⟩)))
        · go_roundw
          case rel =>
            obtain ⟨ys', h1, h2, h3⟩ := hx4.out
            exact ⟨k + 1, ys', by omega, by go_num, h1, h2, h3⟩
          case measure => simp [intOf]; omega
        · go_ret
          exact .inr ⟨rfl, hx5.out⟩
        · go_ret
          exact .inr ⟨rfl, hx3.out⟩
        · go_ret
          exact .inr ⟨rfl, hx2.out⟩
      · have hke : tx.take k = tx := List.take_of_length_le (by omega)
        rw [hke] at hys
        clear hke
        gi_wp2
        go_ret
        exact .inl ⟨rfl, ys, hys.out, hJ1.out, hkc.out⟩

set_option maxRecDepth 100000 in
set_option maxHeartbeats 1000000 in
/-- The closure that statements makes. -/
theorem stm1_in (F : Fence) (hd : F.depth = none) (n : Nat) (h27 : F.fn 89) (h28 : F.fn 90) (hro : F.round = none) (l Bt n₀ m D : Nat) (Pr : St → Prop) (w : World) (A : Option Addr) (c : Nat) (tx : List St) (J Jx : List (El w n₀ D Pr) → World → Prop) (hJa : ∀ s W o, J s W → J s (W.alloc o))
    (hY : ∀ pre (x : El w n₀ D Pr) W, J pre W → pre.length < (flat D tx).length → YieldAt F (n - 1) Tryz.prog l (elV x) W fun e W' => (e = .returned (.bool true) ∧ J (pre ++ [x]) W' ∧ Kc n₀ m W W') ∨ (e = .returned (.bool false) ∧ Jx (pre ++ [x]) W'))
    (hk : SKids w 0 n₀ D A tx) (hP : ∀ y ∈ flat D tx, Pr y.2) (hl : tx.length ≤ 9223372036854775807) (hD : D ≤ 4611686018427387903)
    (W : World) (hBt : W.cell? ⟨Bt, 0, none⟩ = some (.slice A tx.length c)) (hw : Below n₀ w W) (hm : m ≤ W.heap.size) (hn : n₀ ≤ W.heap.size) (h0 : J [] W) :
    CallsIn F n Tryz.prog 89 #[.func (.yield l) #[] #[], .pointer (some ⟨Bt, 0, none⟩)] W fun e W' => (∃ v, e = .returned v) ∧
      ((∃ ys, ys.map El.key = flat D tx ∧ J ys W') ∨ (∃ pre, pre.map El.key <+: flat D tx ∧ Jx pre W')) := by
  have hdd : ∀ k : Nat, (F.depth.isSome = true → 1 ≤ k) := fun k h => by rw [hd] at h; cases h
  have hp := tell_in F hd h28 hro l n₀ m (flat D tx).length D Pr w J Jx hJa (fun k pre x W hj hl => YieldAt.anyDepth hd k (hY pre x W hj hl)) D (Nat.le_refl _) 1 tx A c (n - 1) [] W hk hP hl (by omega) hw hm hn h0 (by simp [flat])
  clear hY hk hJa hP
  refine callsIn_of_wp Tryz.func89 rfl h27 ?_ hro
  simp only [Tryz.ntmps89, List.size_toArray, List.length_cons, List.length_nil, Nat.reduceAdd, Nat.reduceSub, Array.replicate_succ, Array.replicate_zero, List.push_toArray, List.append_toArray, List.nil_append, List.cons_append]
  gi_wp2_with ((try refine ⟨hdd _, ?_⟩); gi_at_call 90; refine hp.mono ?_; clear hp; rintro e W1 (⟨rfl, ys, hy, hJ1, _⟩ | ⟨rfl, ys, hy, hx⟩))
  · go_end0
    exact ⟨⟨_, rfl⟩, .inl ⟨ys, hy, by simpa using hJ1⟩⟩
  · go_end0
    exact ⟨⟨_, rfl⟩, .inr ⟨ys, hy, by simpa using hx⟩⟩
set_option maxHeartbeats 1000000 in
theorem stm_in (F : Fence) (n : Nat) (h : F.fn 76) (hro : F.round = none) (A : Option Addr) (k c : Nat) (w : World) :
    CallsIn F n Tryz.prog 76 #[.slice A k c] w fun e w' => e = .returned (.func (.func 89) #[] #[.pointer (some ⟨w.heap.size, 0, none⟩)]) ∧ w' = w.alloc (.cells #[.slice A k c] 41) := by
  refine callsIn_of_wp Tryz.func76 rfl h ?_ hro
  simp only [Tryz.ntmps76, List.size_toArray, List.length_cons, List.length_nil, Nat.reduceAdd, Nat.reduceSub, Array.replicate_succ, Array.replicate_zero, List.push_toArray, List.append_toArray, List.nil_append, List.cons_append]
  gi_wp2
  go_ret
  exact ⟨rfl, rfl⟩
/-- What statements hands back: all statements, or a beginning of them. w: where the loop begins; w0: where the tree was read. -/
theorem stm_stops (F : Fence) (hd : F.depth = none) (n : Nat) (h27 : F.fn 89) (h28 : F.fn 90) (hro : F.round = none) (Bt n₀ D : Nat) (Pr : St → Prop) (w0 w : World) (A : Option Addr) (c : Nat) (tx : List St) (hBt : Bt < w.heap.size) (hn₀ : n₀ ≤ w.heap.size)
    (hc : w.cell? ⟨Bt, 0, none⟩ = some (.slice A tx.length c)) (hk : SKids w0 0 n₀ D A tx) (hP : ∀ y ∈ flat D tx, Pr y.2) (hw0 : Below n₀ w0 w) (hl : tx.length ≤ 9223372036854775807) (hD : D ≤ 4611686018427387903) :
    SeqStopsK F n Tryz.prog 89 #[.pointer (some ⟨Bt, 0, none⟩)] (elV (w := w0) (hi := n₀) (D := D) (Pr := Pr)) (Kc n₀ w.heap.size) (fun ys => ys.map El.key = flat D tx) (fun ys => ys.map El.key <+: flat D tx) (flat D tx).length w := fun l J Jx W hW hJ _ hY h0 =>
  stm1_in F hd n h27 h28 hro l Bt n₀ w.heap.size D Pr w0 A c tx J Jx (fun s W o h => hJ s W _ none h (World.grownBy_alloc W o none) (fun r e => by cases e)) hY hk hP hl hD W ((hW.cell (p := ⟨Bt, 0, none⟩) hBt).trans hc) (hw0.trans (hW.mono hn₀)) hW.size (Nat.le_trans hn₀ hW.size) h0
end Go.Proofs.YthdcdffdpdoeoaaGreatDoor
/-
  WHAT STAYS ABOVE A MARK, behind a call that left all that was there as it was. No condition.
-/
namespace Go.Proofs.YthdcdffdpdoeoaaGreatDoor
set_option maxRecDepth 100000
open Go.RowKit Go.Shelf
set_option linter.unusedVariables false
attribute [local go_sem] Oper.semAt_some

theorem keeps_below {B : Nat} {W W' : World} (h : Below W.heap.size W W') : KeepsFrom B W W' := ⟨h.size, fun k o _ hk _ => (h.block k (Array.getElem?_eq_some_iff.1 hk).1).trans hk⟩
end Go.Proofs.YthdcdffdpdoeoaaGreatDoor
/-
  CONTRACTS OF PACKAGE code's count, none, mayBe: of how many expressions one is; whether there is none; whether it may be; the memory that was there stays as it was. Conditions: as they stand.
-/
namespace Go.Proofs.YthdcdffdpdoeoaaGreatDoor
set_option maxRecDepth 100000
open Go.RowKit
set_option linter.unusedVariables false
set_option maxRecDepth 100000 in
theorem none_any (d : Nat) (e : Ex) (v : Value) (lo hi : Nat) (w : World) (h : At w lo hi d v e) :
    Calls Tryz.prog 91 #[v] w fun r w' => r = .returned (.bool (noneE e)) ∧ Below w.heap.size w w' := by
  obtain ⟨d, rfl⟩ : ∃ q, d = q + 1 := by
    cases d with
    | zero => exact h.elim
    | succ q => exact ⟨q, rfl⟩
  obtain ⟨op, n, args⟩ := e
  obtain ⟨q1, q2, q3, q4, A, c, rfl, hk⟩ := h.open_
  have HB0 := Lib.hid (boxed_below w (.int .u8 op) (.int .i64 n) (.slice A args.length c))
  clear hk h
  by_cases h0 : op = 0
  · have t0 : ((op : Int) == 0) = true := by simp; omega
    by_cases h1 : n = 0
    · have HV : Hid (noneE (.node op n args) = ((args.length : Int) == 0)) := by
        show noneE _ = _
        rw [show noneE (.node op n args) = (decide (op = 0) && (decide (n = 0) && decide (args.length = 0))) from rfl, decide_eq_true h0, decide_eq_true h1, Bool.true_and, Bool.true_and]
        by_cases hl : args.length = 0
        · rw [decide_eq_true hl]; symm; exact beq_iff_eq.2 (by omega)
        · rw [decide_eq_false hl]; symm; exact beq_eq_false_iff_ne.2 (by omega)
      have t1 : (n == 0) = true := by simp [h1]
      clear h0 h1
      go_enter Tryz.func91, Tryz.ntmps91
      go_wp2_with fail
      go_ret
      exact ⟨by rw [HV.out]; rfl, HB0.out⟩
    · have HV : Hid (noneE (.node op n args) = false) := by
        show noneE _ = _
        rw [show noneE (.node op n args) = (decide (op = 0) && (decide (n = 0) && decide (args.length = 0))) from rfl, decide_eq_false h1, Bool.false_and, Bool.and_false]
      have t1 : (n == 0) = false := by simp [h1]
      clear h0 h1
      go_enter Tryz.func91, Tryz.ntmps91
      go_wp2_with fail
      go_ret
      exact ⟨by rw [HV.out]; rfl, HB0.out⟩
  · have HV : Hid (noneE (.node op n args) = false) := by
      show noneE _ = _
      rw [show noneE (.node op n args) = (decide (op = 0) && (decide (n = 0) && decide (args.length = 0))) from rfl, decide_eq_false h0, Bool.false_and]
    have t0 : ((op : Int) == 0) = false := by simp; omega
    clear h0
    go_enter Tryz.func91, Tryz.ntmps91
    go_wp2_with fail
    go_ret
    exact ⟨by rw [HV.out]; rfl, HB0.out⟩
set_option maxRecDepth 100000 in
theorem cnte_any (d : Nat) (e : Ex) (v : Value) (lo hi : Nat) (w : World) (h : At w lo hi d v e) (hhi : hi ≤ w.heap.size) (hc : e.op = 0 ∨ cnt d e ≤ 100000) :
    Calls Tryz.prog 78 #[v] w fun r w' => r = .returned (.int .i64 (cntE d e : Nat)) ∧ Below w.heap.size w w' := by
  obtain ⟨d, rfl⟩ : ∃ q, d = q + 1 := by
    cases d with
    | zero => exact h.elim
    | succ q => exact ⟨q, rfl⟩
  obtain ⟨op, n, args⟩ := e
  have hh := h
  obtain ⟨q1, q2, q3, q4, A, c, rfl, hk⟩ := h.open_
  have b0 := boxed_below w (.int .u8 op) (.int .i64 n) (.slice A args.length c)
  have hA := hh.below b0 hhi
  have HB0 := Lib.hid b0
  by_cases h0 : op = 0
  · have HV : Hid (cntE (d + 1) (.node op n args) = 0) := by
      show cntE _ _ = _
      exact if_pos h0
    have t0 : ((op : Int) == 0) = true := by simp; omega
    clear hk hh h b0 hA h0 hc
    go_enter Tryz.func78, Tryz.ntmps78
    go_wp2_with fail
    go_ret
    exact ⟨by rw [HV.out]; rfl, HB0.out⟩
  · have HV : Hid (cntE (d + 1) (.node op n args) = cnt (d + 1) (.node op n args)) := by
      show cntE _ _ = _
      exact if_neg h0
    have HC := Lib.hid (count_any (d + 1) (.node op n args) _ lo hi _ hA (by simp; omega) (hc.resolve_left h0))
    have t0 : ((op : Int) == 0) = false := by simp; omega
    clear hk hh h b0 hA h0 hc
    go_enter Tryz.func78, Tryz.ntmps78
    go_wp2_with fail
    refine HC.out.mono ?_
    rintro r w5 ⟨rfl, b5⟩
    go_wp2_with fail
    go_ret
    exact ⟨by rw [HV.out]; rfl, HB0.out.trans (b5.mono HB0.out.size)⟩
set_option maxRecDepth 100000 in
theorem maybe_any (d : Nat) (e : Ex) (v : Value) (lo hi : Nat) (m : Int) (hm0 : -9223372036854775808 ≤ m) (hm1 : m < 9223372036854775808) (w : World) (h : At w lo hi d v e) (hhi : hi ≤ w.heap.size) :
    Calls Tryz.prog 92 #[v, .int .i64 m] w fun r w' => r = .returned (.bool (mayE d e m)) ∧ Below w.heap.size w w' := by
  obtain ⟨d, rfl⟩ : ∃ q, d = q + 1 := by
    cases d with
    | zero => exact h.elim
    | succ q => exact ⟨q, rfl⟩
  obtain ⟨op, n, args⟩ := e
  have hh := h
  obtain ⟨q1, q2, q3, q4, A, c, rfl, hk⟩ := h.open_
  have b0 := boxed_below w (.int .u8 op) (.int .i64 n) (.slice A args.length c)
  have hbx := Boxed.new w (.int .u8 op) (.int .i64 n) (.slice A args.length c)
  have z0 : w.heap.size < (w.alloc (.cells #[.int .u8 op, .int .i64 n, .slice A args.length c] 40)).heap.size := by simp
  have hA := hh.below b0 hhi
  have HM := Lib.hid (none_any (d + 1) _ _ lo hi _ hA)
  have HN : Hid (∀ W', Below (w.alloc (.cells #[.int .u8 op, .int .i64 n, .slice A args.length c] 40)).heap.size (w.alloc (.cells #[.int .u8 op, .int .i64 n, .slice A args.length c] 40)) W' → Calls Tryz.prog 111 #[.agg #[.int .u8 op, .int .i64 n, .slice A args.length c], .int .i64 m] W' fun r w' => r = .returned (.bool (wholeF 6 (.node op n args) && belowF (d + 1) (.node op n args) m)) ∧ Below W'.heap.size W' w') :=
    fun W' h' => may_any (d + 1) _ _ lo hi m hm0 hm1 W' (hA.below h' (by simp; omega)) (by have := h'.size; simp at this; omega)
  have HB0 := Lib.hid b0
  have HBX := Lib.hid hbx
  have HZ0 := Lib.hid z0
  obtain ⟨e, he⟩ : ∃ e, e = Ex.node op n args := ⟨_, rfl⟩
  rw [← he] at HM HN ⊢
  clear hk hh h b0 hbx z0 hA he
  cases hv : noneE e with
  | true =>
    rw [hv] at HM
    have HV : Hid (mayE (d + 1) e m = true) := by show mayE _ _ _ = _; rw [mayE, hv]; rfl
    clear hv
    go_enter Tryz.func92, Tryz.ntmps92
    go_wp2_with fail
    refine HM.out.mono ?_
    rintro r w5 ⟨rfl, b5⟩
    go_wp2_with fail
    go_ret
    exact ⟨by rw [HV.out]; rfl, HB0.out.trans (b5.mono HB0.out.size)⟩
  | false =>
    rw [hv] at HM
    have HV : Hid (mayE (d + 1) e m = (wholeF 6 e && belowF (d + 1) e m)) := by show mayE _ _ _ = _; rw [mayE, hv]; rfl
    clear hv
    go_enter Tryz.func92, Tryz.ntmps92
    go_wp2_with fail
    refine HM.out.mono ?_
    rintro r w5 ⟨rfl, b5⟩
    have g0 := (HBX.out.below b5 HZ0.out).c0
    have g1 := (HBX.out.below b5 HZ0.out).c1
    have g2 := (HBX.out.below b5 HZ0.out).c2
    go_wp2_with fail
    refine (HN.out w5 b5).mono ?_
    rintro r w6 ⟨rfl, b6⟩
    go_wp2_with fail
    go_ret
    exact ⟨by rw [HV.out]; rfl, HB0.out.trans ((b5.trans (b6.mono b5.size)).mono HB0.out.size)⟩
end Go.Proofs.YthdcdffdpdoeoaaGreatDoor
/-
  A REGION THAT DRAWS ITS ORDER, BY WHAT EACH OPERATION LEAVES: if each operation, behind those that it waits for, leaves a value of its own kind, whatever else was done, and what was left stays so, then behind the region all values are of their kinds, in whatever order. Conditions: each operation has a temporary of its own, one behind the other, and no guard; memory only grows.
-/
namespace Go.Proofs.YthdcdffdpdoeoaaGreatDoor
set_option maxRecDepth 100000
open Go.RowKit
set_option linter.unusedVariables false
def cntR (p : Nat → Bool) : Nat → Nat
  | 0 => 0
  | n + 1 => cntR p n + (if p n then 1 else 0)
theorem cntR_same (p q : Nat → Bool) : ∀ n, (∀ j, j < n → p j = q j) → cntR p n = cntR q n := by
  intro n
  induction n with
  | zero => intro _; rfl
  | succ n ih => intro h; rw [cntR, cntR, ih fun j hj => h j (by omega), h n (by omega)]
theorem cntR_less (p q : Nat → Bool) (i : Nat) : ∀ n, i < n → (∀ j, j ≠ i → q j = p j) → p i = true → q i = false → cntR q n + 1 = cntR p n := by
  intro n
  induction n with
  | zero => intro h; omega
  | succ n ih =>
    intro h hs hp hq
    rw [cntR, cntR]
    by_cases hi : i = n
    · subst hi
      rw [hp, hq, cntR_same q p i fun j hj => hs j (by omega)]
      simp
    · rw [hs n (by omega), ← ih (by omega) hs hp hq]
      omega
theorem cntR_zero (p : Nat → Bool) : ∀ n, cntR p n = 0 → ∀ j, j < n → p j = false := by
  intro n
  induction n with
  | zero => intro _ j hj; omega
  | succ n ih =>
    intro h j hj
    rw [cntR] at h
    by_cases hj' : j = n
    · subst hj'
      cases hp : p j with
      | false => rfl
      | true => rw [hp] at h; simp at h
    · exact ih (by omega) j (by omega)
section
variable {P : Program} {ops : Array Oper} {Q : Exit → Act → World → Prop} {md : Region.Mode}
theorem ready_of {listed : Array Bool} {i : Nat} (h : i ∈ Region.ready md ops listed) : i < ops.size ∧ listed.getD i true = false ∧ ∀ o, ops[i]? = some o → ∀ e ∈ o.after.toList, Region.binds md e = true → listed.getD e.on false = true := by
  unfold Region.ready at h
  rw [List.mem_filter, List.mem_range, Bool.and_eq_true, Bool.not_eq_true'] at h
  refine ⟨h.1, h.2.1, fun o ho e he hb => ?_⟩
  have h2 := h.2.2
  rw [ho] at h2
  simp only [Option.map_some, Option.getD_some] at h2
  have h3 := Array.all_eq_true'.1 h2 e (by simpa using he)
  simpa [hb] using h3
theorem ready_none {listed : Array Bool} (h : ∀ j, j < ops.size → listed.getD j true = true) : Region.ready md ops listed = [] := by
  unfold Region.ready
  rw [List.filter_eq_nil_iff]
  intro i hi
  rw [h i (by simpa using hi)]
  simp
theorem ready_some {listed : Array Bool} (hw : ∀ i o, ops[i]? = some o → ∀ e ∈ o.after.toList, Region.binds md e = true → e.on < i) (h : Region.ready md ops listed = []) (hl : listed.size = ops.size) : ∀ j, j < ops.size → listed.getD j true = true := by
  intro j
  induction j using Nat.strongRecOn with
  | _ j ih =>
    intro hj
    cases hp : listed.getD j true with
    | true => rfl
    | false =>
      have hm : j ∈ Region.ready md ops listed := by
        unfold Region.ready
        rw [List.mem_filter, List.mem_range, Bool.and_eq_true, Bool.not_eq_true']
        refine ⟨hj, hp, ?_⟩
        rw [Array.getElem?_eq_getElem hj]
        simp only [Option.map_some, Option.getD_some]
        refine Array.all_eq_true'.2 fun e he => ?_
        cases hb : Region.binds md e with
        | false => rfl
        | true =>
          have hlt := hw j _ (Array.getElem?_eq_getElem hj) e (by simpa using he) hb
          have := ih e.on hlt (by omega)
          rw [Array.getD_eq_getD_getElem?, Array.getElem?_eq_getElem (by omega)] at this ⊢
          simpa using this
      rw [h] at hm
      cases hm
theorem wpAny_inv {I : Array Bool → Act → World → Prop} (hsz : ∀ listed a w, I listed a w → listed.size = ops.size)
    (hstep : ∀ listed a w, I listed a w → ∀ i ∈ Region.ready md ops listed, wpOp P ops Q i (fun a' w' => I (listed.setIfInBounds i true) a' w') a w)
    (hend : ∀ listed a w, I listed a w → Region.ready md ops listed = [] → Q .normal a w) :
    ∀ (fuel : Nat) (listed : Array Bool) (a : Act) (w : World), I listed a w → cntR (fun j => !listed.getD j true) ops.size ≤ fuel → wpAny P md ops Q fuel listed a w := by
  intro fuel
  induction fuel with
  | zero =>
    intro listed a w h hc
    have hr : Region.ready md ops listed = [] := ready_none fun j hj => by
      have := cntR_zero _ _ (Nat.le_zero.1 hc) j hj
      simpa using this
    exact ⟨hr, hend _ _ _ h hr⟩
  | succ fuel ih =>
    intro listed a w h hc
    refine ⟨hend _ _ _ h, fun i hi => wpOp_mono (fun a' w' h' => ih _ a' w' h' ?_) (hstep _ _ _ h i hi)⟩
    obtain ⟨h1, h2, _⟩ := ready_of hi
    have hs := hsz _ _ _ h
    have := cntR_less (fun j => !listed.getD j true) (fun j => !(listed.setIfInBounds i true).getD j true) i ops.size h1 (fun j hj => by
      show (!(listed.setIfInBounds i true).getD j true) = !listed.getD j true
      rw [Array.getD_eq_getD_getElem?, Array.getD_eq_getD_getElem?, Array.getElem?_setIfInBounds_ne (by omega)]) (by simpa using h2) (by
      show (!(listed.setIfInBounds i true).getD i true) = false
      rw [Array.getD_eq_getD_getElem?, Array.getElem?_setIfInBounds_self_of_lt (by omega)]
      rfl)
    omega
/-- A frame: what stands ahead, the region's own temporaries, what stands behind. -/
def fr (pre us post : List Value) : Act := ⟨(pre ++ us ++ post).toArray, []⟩
theorem fr_put (pre us post : List Value) (i : Nat) (v : Value) (h : i < us.length) : (fr pre us post).put (some (pre.length + i)) v = fr pre (us.set i v) post := by
  have h1 : (pre ++ us ++ post).set (pre.length + i) v = pre ++ us.set i v ++ post := by
    rw [List.append_assoc, List.set_append_right _ _ (by omega), List.set_append_left _ _ (by omega), List.append_assoc]
    congr 3
    omega
  show (⟨(pre ++ us ++ post).toArray.setIfInBounds (pre.length + i) v, []⟩ : Act) = ⟨(pre ++ us.set i v ++ post).toArray, []⟩
  rw [← h1, List.setIfInBounds_toArray]
theorem fr_eval (pre us post : List Value) (i : Nat) (h : i < us.length) : (fr pre us post).eval (.tmp (pre.length + i)) = us.getD i undef := by
  show (pre ++ us ++ post).toArray.getD (pre.length + i) undef = _
  rw [Array.getD_eq_getD_getElem?, List.getElem?_toArray, List.append_assoc, List.getElem?_append_right (by omega), List.getElem?_append_left (by omega), List.getD_eq_getElem?_getD]
  congr 2
  omega
theorem fr_pre (pre us post : List Value) (i : Nat) (h : i < pre.length) : (fr pre us post).eval (.tmp i) = pre.getD i undef := by
  show (pre ++ us ++ post).toArray.getD i undef = _
  rw [Array.getD_eq_getD_getElem?, List.getElem?_toArray, List.append_assoc, List.getElem?_append_left (by omega), List.getD_eq_getElem?_getD]
theorem wp_region_inv {id : Nat} (S : Nat → Value → World → Prop) (W : World) (pre us0 post : List Value) (hm : P.follows .mixedOrders = true) (hlen : us0.length = ops.size)
    (hops : ∀ i o, ops[i]? = some o → o.dst = some (pre.length + i) ∧ o.guard = none ∧ ∀ e ∈ o.after.toList, Region.binds .any e = true → e.on < i)
    (hmono : ∀ i v w w', Below W.heap.size W w → Below w.heap.size w w' → S i v w → S i v w')
    (hstep : ∀ i o, ops[i]? = some o → ∀ us w, us.length = ops.size → Below W.heap.size W w → (∀ e ∈ o.after.toList, Region.binds .any e = true → S e.on (us.getD e.on undef) w) →
      ∀ K : Act → World → Prop, (∀ v w', Below w.heap.size w w' → S i v w' → K (fr pre (us.set i v) post) w') → Oper.wp P o (fr pre us post) w K Q)
    (hend : ∀ us w, us.length = ops.size → Below W.heap.size W w → (∀ i, i < ops.size → S i (us.getD i undef) w) → Q .normal (fr pre us post) w) :
    (Code.region id ops true).wp P Q (fr pre us0 post) W := by
  refine wp_region_any hm ?_
  refine wpAny_inv (I := fun listed a w => listed.size = ops.size ∧ ∃ us : List Value, us.length = ops.size ∧ a = fr pre us post ∧ Below W.heap.size W w ∧ ∀ i, i < ops.size → listed.getD i true = true → S i (us.getD i undef) w) (fun _ _ _ h => h.1) ?_ ?_ _ _ _ _ ⟨by simp, us0, hlen, rfl, (Below.refl _ _).drew, fun i hi h => ?_⟩ ?_
  · rintro listed a w ⟨hs, us, hu, rfl, hb, hS⟩ i hi
    obtain ⟨h1, h2, h3⟩ := ready_of hi
    have ho : ops[i]? = some ops[i] := Array.getElem?_eq_getElem h1
    obtain ⟨o1, o2, o3⟩ := hops i _ ho
    unfold wpOp
    rw [ho]
    have hw : Region.wanted ops[i] (yielded ops (fr pre us post).tmps) = true := by simp [Region.wanted, o2]
    simp only [hw, if_true]
    refine .inl (hstep i _ ho us w hu hb (fun e he hbn => ?_) _ fun v w' hb' hv => ?_)
    · have hlt := o3 e he hbn
      refine hS e.on (by omega) ?_
      have := h3 _ ho e he hbn
      rw [Array.getD_eq_getD_getElem?, Array.getElem?_eq_getElem (by omega)] at this ⊢
      simpa using this
    · refine ⟨by simpa using hs, us.set i v, by simpa using hu, rfl, hb.trans (hb'.mono hb.size), fun j hj hl => ?_⟩
      by_cases hji : j = i
      · subst hji
        rw [List.getD_eq_getElem?_getD, List.getElem?_set_self (by omega)]
        exact hv
      · rw [List.getD_eq_getElem?_getD, List.getElem?_set_ne (by omega), ← List.getD_eq_getElem?_getD]
        refine hmono j _ w w' hb hb' (hS j hj ?_)
        rw [Array.getD_eq_getD_getElem?, Array.getElem?_setIfInBounds_ne (by omega), ← Array.getD_eq_getD_getElem?] at hl
        exact hl
  · rintro listed a w ⟨hs, us, hu, rfl, hb, hS⟩ hr
    have hall := ready_some (fun i o ho => (hops i o ho).2.2) hr hs
    exact hend us w hu hb fun i hi => hS i hi (hall i hi)
  · rw [Array.getD_eq_getD_getElem?, Array.getElem?_replicate, if_pos hi] at h
    cases h
  · have hle : ∀ (p : Nat → Bool) n, cntR p n ≤ n := fun p n => by
      induction n with
      | zero => exact Nat.le_refl _
      | succ n ih => rw [cntR]; split <;> omega
    exact hle _ _
/-- Each operation has a temporary of its own, one behind the other, no guard, and waits for such alone as stand ahead. -/
def okOps (p : Nat) (ops : Array Oper) : Bool := (List.range ops.size).all fun i => match ops[i]? with
  | some o => o.dst == some (p + i) && o.guard.isNone && o.after.all fun e => !Region.binds .any e || decide (e.on < i)
  | none => false
theorem okOps_spec {p : Nat} {ops : Array Oper} (h : okOps p ops = true) : ∀ i o, ops[i]? = some o → o.dst = some (p + i) ∧ o.guard = none ∧ ∀ e ∈ o.after.toList, Region.binds .any e = true → e.on < i := by
  intro i o ho
  have hi : i < ops.size := (Array.getElem?_eq_some_iff.1 ho).1
  have h1 := List.all_eq_true.1 h i (by simpa using hi)
  rw [ho] at h1
  simp only [Bool.and_eq_true, beq_iff_eq, Option.isNone_iff_eq_none] at h1
  refine ⟨h1.1.1, h1.1.2, fun e he hb => ?_⟩
  have h2 := Array.all_eq_true'.1 h1.2 e (by simpa using he)
  simpa [hb] using h2
/-- The law, at a frame that is given whole. -/
theorem wp_region_kinds {id : Nat} (S : Nat → Value → World → Prop) (W : World) (T : Array Value) (p : Nat) (hp : p + ops.size ≤ T.size) (hm : P.follows .mixedOrders = true) (hops : okOps p ops = true)
    (hmono : ∀ i v w w', Below W.heap.size W w → Below w.heap.size w w' → S i v w → S i v w')
    (hstep : ∀ i o, ops[i]? = some o → ∀ (a : Act) (us : List Value) (w : World), us.length = ops.size → (∀ t, t < p → a.eval (.tmp t) = T.getD t undef) → (∀ j, j < ops.size → a.eval (.tmp (p + j)) = us.getD j undef) → Below W.heap.size W w → (∀ e ∈ o.after.toList, Region.binds .any e = true → S e.on (us.getD e.on undef) w) →
      ∀ K : Act → World → Prop, (∀ v w', Below w.heap.size w w' → S i v w' → K (a.put o.dst v) w') → Oper.wp P o a w K Q)
    (hend : ∀ (us : List Value) (w : World), us.length = ops.size → Below W.heap.size W w → (∀ i, i < ops.size → S i (us.getD i undef) w) → Q .normal (fr (T.toList.take p) us (T.toList.drop (p + ops.size))) w) :
    (Code.region id ops true).wp P Q ⟨T, []⟩ W := by
  have hl : (T.toList.take p).length = p := by simp; omega
  have hsplit : T = (T.toList.take p ++ (T.toList.drop p).take ops.size ++ T.toList.drop (p + ops.size)).toArray := by
    apply Array.ext'
    rw [List.toList_toArray, List.append_assoc, ← List.drop_drop, List.take_append_drop, List.take_append_drop]
  have hfr : (⟨T, []⟩ : Act) = fr (T.toList.take p) ((T.toList.drop p).take ops.size) (T.toList.drop (p + ops.size)) := by
    unfold fr
    rw [← hsplit]
  rw [hfr]
  have hsp := okOps_spec hops
  refine wp_region_inv S W _ _ _ hm (by simp; omega) (fun i o ho => by rw [hl]; exact hsp i o ho) hmono (fun i o ho us w hu hb hd K hK => ?_) hend
  have hi : i < ops.size := (Array.getElem?_eq_some_iff.1 ho).1
  refine hstep i o ho _ us w hu (fun t ht => ?_) (fun j hj => ?_) hb hd K fun v w' h1 h2 => ?_
  · rw [fr_pre _ _ _ _ (by omega), List.getD_eq_getElem?_getD, List.getElem?_take_of_lt ht, Array.getD_eq_getD_getElem?]
    simp
  · have := fr_eval (T.toList.take p) us (T.toList.drop (p + ops.size)) j (by omega)
    rwa [hl] at this
  · have := fr_put (T.toList.take p) us (T.toList.drop (p + ops.size)) i v (by omega)
    rw [hl] at this
    rw [(hsp i o ho).1, this]
    exact hK v w' h1 h2
end
end Go.Proofs.YthdcdffdpdoeoaaGreatDoor
/-
  A REGION THAT DRAWS ITS ORDER AND WHOSE VALUES ARE FIXED: if each operation but the last, behind those that it waits for, leaves one value, whatever else was done, and memory only grows; and the last, that waits for all, does what it does: then so the region, in whatever order. Conditions: each operation but the last has a temporary of its own, one behind the other; no guard. (Inside a fence, a round of a loop over an iterator too.)
-/
namespace Go.Proofs.YthdcdffdpdoeoaaGreatDoor
set_option maxRecDepth 100000
open Go.RowKit
set_option linter.unusedVariables false
section
variable {F : Fence} {n : Nat} {P : Program} {ops : Array Oper} {Q : Exit → Act → World → Prop} {md : Region.Mode}
theorem wpAnyIn_inv {I : Array Bool → Act → World → Prop} (hsz : ∀ listed a w, I listed a w → listed.size = ops.size)
    (hstep : ∀ listed a w, I listed a w → ∀ i ∈ Region.ready md ops listed, wpOpIn F n P ops Q i (fun a' w' => I (listed.setIfInBounds i true) a' w') a w)
    (hend : ∀ listed a w, I listed a w → Region.ready md ops listed = [] → Q .normal a w) :
    ∀ (fuel : Nat) (listed : Array Bool) (a : Act) (w : World), I listed a w → cntR (fun j => !listed.getD j true) ops.size ≤ fuel → wpAnyIn F n P md ops Q fuel listed a w := by
  intro fuel
  induction fuel with
  | zero =>
    intro listed a w h hc
    have hr : Region.ready md ops listed = [] := ready_none fun j hj => by
      have := cntR_zero _ _ (Nat.le_zero.1 hc) j hj
      simpa using this
    exact ⟨hr, hend _ _ _ h hr⟩
  | succ fuel ih =>
    intro listed a w h hc
    refine ⟨hend _ _ _ h, fun i hi => wpOpIn_mono (fun a' w' h' => ih _ a' w' h' ?_) (hstep _ _ _ h i hi)⟩
    obtain ⟨h1, h2, _⟩ := ready_of hi
    have hs := hsz _ _ _ h
    have := cntR_less (fun j => !listed.getD j true) (fun j => !(listed.setIfInBounds i true).getD j true) i ops.size h1 (fun j hj => by
      show (!(listed.setIfInBounds i true).getD j true) = !listed.getD j true
      rw [Array.getD_eq_getD_getElem?, Array.getD_eq_getD_getElem?, Array.getElem?_setIfInBounds_ne (by omega)]) (by simpa using h2) (by
      show (!(listed.setIfInBounds i true).getD i true) = false
      rw [Array.getD_eq_getD_getElem?, Array.getElem?_setIfInBounds_self_of_lt (by omega)]
      rfl)
    omega
/-- Each operation but the last has a temporary of its own, and waits for such alone as stand ahead; the last has none, and waits for all. -/
def okDet (p L : Nat) (ops : Array Oper) : Bool := ops.size == L + 1 && ((List.range L).all fun i => match ops[i]? with
  | some o => o.dst == some (p + i) && o.guard.isNone && o.after.all fun e => !Region.binds .any e || decide (e.on < i)
  | none => false) && match ops[L]? with
  | some o => o.dst.isNone && o.guard.isNone && (o.after.all fun e => !Region.binds .any e || decide (e.on < L)) && (List.range L).all fun j => o.after.any fun e => Region.binds .any e && e.on == j
  | none => false
theorem getD_none {l : Array Bool} {i : Nat} (h : i < l.size) (b c : Bool) : l.getD i b = l.getD i c := by
  rw [Array.getD_eq_getD_getElem?, Array.getD_eq_getD_getElem?, Array.getElem?_eq_getElem h]
  rfl
theorem wpIn_region_det {id : Nat} (vs : List Value) (W : World) (T : Array Value) (p : Nat) (hp : p + vs.length ≤ T.size) (hm : P.follows .mixedOrders = true) (hops : okDet p vs.length ops = true)
    (hstep : ∀ i o, ops[i]? = some o → i < vs.length → ∀ (a : Act) (w : World), (∀ t, t < p → a.eval (.tmp t) = T.getD t undef) → (∀ e ∈ o.after.toList, Region.binds .any e = true → a.eval (.tmp (p + e.on)) = vs.getD e.on undef) → Below W.heap.size W w →
      ∀ K : Act → World → Prop, (∀ w', Below w.heap.size w w' → K (a.put o.dst (vs.getD i undef)) w') → Oper.wpIn F n P o a w K Q)
    (hlast : ∀ o, ops[vs.length]? = some o → ∀ w, Below W.heap.size W w → Oper.wpIn F n P o (fr (T.toList.take p) vs (T.toList.drop (p + vs.length))) w (fun a w => Q .normal a w) Q) :
    (Code.region id ops true).wpIn F n P Q ⟨T, []⟩ W := by
  have hl : (T.toList.take p).length = p := by simp; omega
  have hfr : (⟨T, []⟩ : Act) = fr (T.toList.take p) ((T.toList.drop p).take vs.length) (T.toList.drop (p + vs.length)) := by
    unfold fr
    congr 1
    apply Array.ext'
    rw [List.toList_toArray, List.append_assoc, ← List.drop_drop, List.take_append_drop, List.take_append_drop]
  unfold okDet at hops
  simp only [Bool.and_eq_true, beq_iff_eq] at hops
  obtain ⟨⟨hsz, hbase⟩, hla⟩ := hops
  have hb : ∀ i o, i < vs.length → ops[i]? = some o → o.dst = some (p + i) ∧ o.guard = none ∧ ∀ e ∈ o.after.toList, Region.binds .any e = true → e.on < i := by
    intro i o hi ho
    have h1 := List.all_eq_true.1 hbase i (by simpa using hi)
    rw [ho] at h1
    simp only [Bool.and_eq_true, beq_iff_eq, Option.isNone_iff_eq_none] at h1
    refine ⟨h1.1.1, h1.1.2, fun e he hbn => ?_⟩
    have h2 := Array.all_eq_true'.1 h1.2 e (by simpa using he)
    simpa [hbn] using h2
  have hL : ∃ o, ops[vs.length]? = some o ∧ o.dst = none ∧ o.guard = none ∧ (∀ e ∈ o.after.toList, Region.binds .any e = true → e.on < vs.length) ∧ ∀ j, j < vs.length → ∃ e ∈ o.after.toList, Region.binds .any e = true ∧ e.on = j := by
    cases ho : ops[vs.length]? with
    | none => rw [ho] at hla; cases hla
    | some o =>
      rw [ho] at hla
      simp only [Bool.and_eq_true, Option.isNone_iff_eq_none] at hla
      obtain ⟨⟨⟨h1, h2⟩, h3⟩, h4⟩ := hla
      refine ⟨o, rfl, h1, h2, fun e he hbn => ?_, fun j hj => ?_⟩
      · have h5 := Array.all_eq_true'.1 h3 e (by simpa using he)
        simpa [hbn] using h5
      · have h5 := List.all_eq_true.1 h4 j (by simpa using hj)
        obtain ⟨e, he, h6⟩ := Array.any_eq_true'.1 h5
        simp only [Bool.and_eq_true, beq_iff_eq] at h6
        exact ⟨e, by simpa using he, h6.1, h6.2⟩
  obtain ⟨oL, hoL, d1, d2, d3, d4⟩ := hL
  have hall : ∀ i o, ops[i]? = some o → ∀ e ∈ o.after.toList, Region.binds .any e = true → e.on < i := by
    intro i o ho e he hbn
    have hi : i < ops.size := (Array.getElem?_eq_some_iff.1 ho).1
    by_cases hv : i < vs.length
    · exact (hb i o hv ho).2.2 e he hbn
    · obtain rfl : i = vs.length := by omega
      rw [hoL] at ho
      cases ho
      exact d3 e he hbn
  rw [hfr]
  refine wpIn_region_any hm ?_
  refine wpAnyIn_inv (I := fun listed a w => listed.size = ops.size ∧ ((listed.getD vs.length true = false ∧ ∃ us : List Value, us.length = vs.length ∧ a = fr (T.toList.take p) us (T.toList.drop (p + vs.length)) ∧ Below W.heap.size W w ∧ ∀ i, i < vs.length → listed.getD i true = true → us.getD i undef = vs.getD i undef) ∨ ((∀ j, j < ops.size → listed.getD j true = true) ∧ Q .normal a w))) (fun _ _ _ h => h.1) ?_ ?_ _ _ _ _ ⟨by simp, .inl ⟨by simp [hsz], _, by simp; omega, rfl, (Below.refl _ _).drew, fun i hi h => ?_⟩⟩ ?_
  · rintro listed a w ⟨hs, h⟩ i hi
    obtain ⟨h1, h2, h3⟩ := ready_of hi
    rcases h with ⟨hn, us, hu, rfl, hbl, hS⟩ | ⟨ha, _⟩
    · have ho : ops[i]? = some ops[i] := Array.getElem?_eq_getElem h1
      unfold wpOpIn
      rw [ho]
      by_cases hv : i < vs.length
      · obtain ⟨o1, o2, o3⟩ := hb i _ hv ho
        have hw : Region.wanted ops[i] (yielded ops (fr (T.toList.take p) us (T.toList.drop (p + vs.length))).tmps) = true := by simp [Region.wanted, o2]
        simp only [hw, if_true]
        refine hstep i _ ho hv _ w (fun t ht => ?_) (fun e he hbn => ?_) hbl _ fun w' hb' => ?_
        · rw [fr_pre _ _ _ _ (by omega), List.getD_eq_getElem?_getD, List.getElem?_take_of_lt ht, Array.getD_eq_getD_getElem?]
          simp
        · have hlt := o3 e he hbn
          have he2 := fr_eval (T.toList.take p) us (T.toList.drop (p + vs.length)) e.on (by omega)
          rw [hl] at he2
          rw [he2]
          refine hS e.on (by omega) ?_
          rw [getD_none (by omega) true false]
          exact h3 _ ho e he hbn
        · have hput := fr_put (T.toList.take p) us (T.toList.drop (p + vs.length)) i (vs.getD i undef) (by omega)
          rw [hl] at hput
          rw [o1, hput]
          refine ⟨by simpa using hs, .inl ⟨?_, us.set i (vs.getD i undef), by simpa using hu, rfl, hbl.trans (hb'.mono hbl.size), fun j hj hlj => ?_⟩⟩
          · rw [Array.getD_eq_getD_getElem?, Array.getElem?_setIfInBounds_ne (by omega), ← Array.getD_eq_getD_getElem?]
            exact hn
          · by_cases hji : j = i
            · subst hji
              rw [List.getD_eq_getElem?_getD, List.getElem?_set_self (by omega)]
              rfl
            · rw [List.getD_eq_getElem?_getD, List.getElem?_set_ne (by omega), ← List.getD_eq_getElem?_getD]
              refine hS j hj ?_
              rw [Array.getD_eq_getD_getElem?, Array.getElem?_setIfInBounds_ne (by omega), ← Array.getD_eq_getD_getElem?] at hlj
              exact hlj
      · obtain rfl : i = vs.length := by omega
        have hoo : ops[vs.length] = oL := by rw [hoL] at ho; exact (Option.some.inj ho).symm
        have hw : Region.wanted ops[vs.length] (yielded ops (fr (T.toList.take p) us (T.toList.drop (p + vs.length))).tmps) = true := by simp [Region.wanted, hoo, d2]
        simp only [hw, if_true]
        have hle : ∀ j, j < vs.length → listed.getD j true = true := fun j hj => by
          obtain ⟨e, he, hbn, rfl⟩ := d4 j hj
          rw [getD_none (by omega) true false]
          exact h3 _ hoL e he hbn
        have hus : us = vs := by
          refine List.ext_getElem (by omega) fun j hj hj' => ?_
          have := hS j (by omega) (hle j (by omega))
          rw [List.getD_eq_getElem?_getD, List.getD_eq_getElem?_getD, List.getElem?_eq_getElem hj, List.getElem?_eq_getElem hj'] at this
          exact this
        rw [hus]
        refine Oper.wpIn_mono (fun a' w' hq => ?_) (hlast _ ho w hbl)
        refine ⟨by simpa using hs, .inr ⟨fun j hj => ?_, hq⟩⟩
        by_cases hjl : j = vs.length
        · subst hjl
          rw [Array.getD_eq_getD_getElem?, Array.getElem?_setIfInBounds_self_of_lt (by omega)]
          rfl
        · rw [Array.getD_eq_getD_getElem?, Array.getElem?_setIfInBounds_ne (by omega), ← Array.getD_eq_getD_getElem?]
          exact hle j (by omega)
    · rw [ha i h1] at h2
      cases h2
  · rintro listed a w ⟨hs, h⟩ hr
    rcases h with ⟨hn, _⟩ | ⟨_, hq⟩
    · have := ready_some hall hr hs vs.length (by omega)
      rw [this] at hn
      cases hn
    · exact hq
  · rw [Array.getD_eq_getD_getElem?, Array.getElem?_replicate, if_pos (by omega)] at h
    cases h
  · have hle : ∀ (p : Nat → Bool) n, cntR p n ≤ n := fun p n => by
      induction n with
      | zero => exact Nat.le_refl _
      | succ n ih => rw [cntR]; split <;> omega
    exact hle _ _
end
/-- A step in a round, at the wide fence, is a step. -/
theorem wpIn_of_wp {l n : Nat} {P : Program} {o : Oper} {a : Act} {w : World} {K : Act → World → Prop} {Q : Exit → Act → World → Prop} (hd : ∀ c, o.op ≠ .defer c) (h : Oper.wp P o a w K Q) : Oper.wpIn (Fence.wide.inRound l) n P o a w K Q := by
  refine ⟨fun _ _ => trivial, ?_⟩
  rw [Oper.semAt_eq _ _ _ hd]
  unfold Oper.wp at h
  generalize (execOp a.eval o).run P w = r at *
  cases r with
  | ok x w' =>
    cases x <;> simp only [Oper.upon, Oper.uponIn] at h ⊢
    case value u => exact h
    case skip => exact h
    case defer d => exact h
    case enter f args => exact ⟨fun h => (by cases h), CallsIn.inRound l (callsIn_wide.2 h)⟩
    case row row args => exact ⟨fun h => (by cases h), fun c cs _ => let ⟨v, w2, r, s⟩ := h c cs; ⟨v, w2, r, stepsIn_wide.2 s⟩⟩
  | halt x w' =>
    cases x <;> simp only [Oper.upon, Oper.uponIn] at h ⊢
    case panic u => exact h
end Go.Proofs.YthdcdffdpdoeoaaGreatDoor
/-
  CONTRACT OF PACKAGE code's Count: how many statements and expressions; the memory that was there stays as it was. Conditions: as they stand.
-/
namespace Go.Proofs.YthdcdffdpdoeoaaGreatDoor
set_option maxRecDepth 100000
open Go.RowKit Go.Shelf
set_option linter.unusedVariables false
attribute [local go_sem] Oper.semAt_some
section
variable {a : Act} {w : World} {K : Act → World → Prop} {Q : Exit → Act → World → Prop} {o : Oper}
theorem ev_tmp {x : Nat} {v : Value} (h : a.eval (.tmp x) = v) : a.tmps[x]?.getD undef = v := by simpa [Act.eval, Array.getD_eq_getD_getElem?] using h
theorem st_load (x g : Nat) (n : Int) (ho : o.op = .load 3 (.tmp x)) (hx : a.eval (.tmp x) = .pointer (some ⟨g, 0, none⟩)) (hc : w.cell? ⟨g, 0, none⟩ = some (.int .i64 n)) (hK : K (a.put o.dst (.int .i64 n)) w) : Oper.wp Tryz.prog o a w K Q := by
  obtain ⟨dst, op, type, pos, after, guard⟩ := o
  have ho' : op = _ := ho
  subst ho'
  have hx2 := ev_tmp hx
  clear ho hx
  go_simp
  exact hK
theorem st_field (x g f off : Nat) (ho : o.op = .fieldAddr 43 (.tmp x) f) (hx : a.eval (.tmp x) = .pointer (some ⟨g, 0, none⟩)) (hf : (f = 2 ∧ off = 2) ∨ (f = 3 ∧ off = 5)) (hK : K (a.put o.dst (.pointer (some ⟨g, off, none⟩))) w) : Oper.wp Tryz.prog o a w K Q := by
  obtain ⟨dst, op, type, pos, after, guard⟩ := o
  have ho' : op = _ := ho
  subst ho'
  have hx2 := ev_tmp hx
  clear ho hx
  rcases hf with ⟨rfl, rfl⟩ | ⟨rfl, rfl⟩
  · go_simp
    exact hK
  · go_simp
    exact hK
theorem st_loadE (x g i : Nat) {u v z : Value} (ho : o.op = .load 40 (.tmp x)) (hx : a.eval (.tmp x) = .pointer (some ⟨g, i, none⟩)) (c0 : w.cell? ⟨g, i, none⟩ = some u) (c1 : w.cell? ⟨g, i + 1, none⟩ = some v) (c2 : w.cell? ⟨g, i + 2, none⟩ = some z) (hK : K (a.put o.dst (.agg #[u, v, z])) w) : Oper.wp Tryz.prog o a w K Q := by
  obtain ⟨dst, op, type, pos, after, guard⟩ := o
  have ho' : op = _ := ho
  subst ho'
  have hx2 := ev_tmp hx
  clear ho hx
  have hi := Tryz.isAgg40
  have hs := Tryz.sizeOf40
  go_simp
  exact hK
theorem st_count (x : Nat) {v : Value} (r : Int) (ho : o.op = .call { callee := .value (.func 78), args := #[.tmp x], argTypes := #[40] }) (hx : a.eval (.tmp x) = v)
    (hc : Calls Tryz.prog 78 #[v] w fun e w' => e = .returned (.int .i64 r) ∧ Below w.heap.size w w') (hK : ∀ w', Below w.heap.size w w' → K (a.put o.dst (.int .i64 r)) w') : Oper.wp Tryz.prog o a w K Q := by
  obtain ⟨dst, op, type, pos, after, guard⟩ := o
  have ho' : op = _ := ho
  subst ho'
  have hx2 := ev_tmp hx
  have h1 := Tryz.func78
  have HC := Lib.hid hc
  clear hx ho hc
  go_simp
  refine HC.out.mono ?_
  rintro e w' ⟨rfl, hb⟩
  exact hK w' hb
theorem st_add (x y : Nat) (m n r : Int) (ho : o.op = .binOp .add 3 (.tmp x) (.tmp y) 3) (hx : a.eval (.tmp x) = .int .i64 m) (hy : a.eval (.tmp y) = .int .i64 n) (hr : m + n = r) (h0 : -9223372036854775808 ≤ r) (h1 : r ≤ 9223372036854775807) (hK : K (a.put o.dst (.int .i64 r)) w) : Oper.wp Tryz.prog o a w K Q := by
  obtain ⟨dst, op, type, pos, after, guard⟩ := o
  have ho' : op = _ := ho
  subst ho'
  have hx2 := ev_tmp hx
  have hy2 := ev_tmp hy
  subst hr
  have hw : IntKind.i64.wrap (m + n) = m + n := IntWalk.i64_in _ (by omega)
  clear ho hx hy
  go_simp
  exact hK
theorem st_store (x y h : Nat) (u v : Int) (ho : o.op = .store 3 (.tmp x) (.tmp y)) (hx : a.eval (.tmp x) = .pointer (some ⟨h, 0, none⟩)) (hy : a.eval (.tmp y) = .int .i64 v) (hc : w.cell? ⟨h, 0, none⟩ = some (.int .i64 u)) (hf : w.frozen? ⟨h, 0, none⟩ = false) (hK : K (a.put o.dst undef) (w.setCell ⟨h, 0, none⟩ (.int .i64 v))) : Oper.wp Tryz.prog o a w K Q := by
  obtain ⟨dst, op, type, pos, after, guard⟩ := o
  have ho' : op = _ := ho
  subst ho'
  have hx2 := ev_tmp hx
  have hy2 := ev_tmp hy
  clear ho hx hy
  go_simp
  exact hK
end
def depB (ops : Array Oper) (i j : Nat) : Bool := match ops[i]? with
  | some o => o.after.any fun e => Region.binds .any e && e.on == j
  | none => false
theorem depB_spec {ops : Array Oper} {i j : Nat} {o : Oper} (ho : ops[i]? = some o) (h : depB ops i j = true) : ∃ e ∈ o.after.toList, Region.binds .any e = true ∧ e.on = j := by
  unfold depB at h
  rw [ho] at h
  obtain ⟨e, he, h6⟩ := Array.any_eq_true'.1 h
  simp only [Bool.and_eq_true, beq_iff_eq] at h6
  exact ⟨e, by simpa using he, h6.1, h6.2⟩
def nodeOps (p x y : Nat) : List Op := [.load 3 (.tmp x), .fieldAddr 43 (.tmp y) 2, .load 40 (.tmp (p + 1)), .call { callee := .value (.func 78), args := #[.tmp (p + 2)], argTypes := #[40] }, .fieldAddr 43 (.tmp y) 3, .load 40 (.tmp (p + 4)),
  .call { callee := .value (.func 78), args := #[.tmp (p + 5)], argTypes := #[40] }, .binOp .add 3 (.tmp (p + 3)) (.tmp (p + 6)) 3, .binOp .add 3 (.tmp p) (.tmp (p + 7)) 3, .store 3 (.tmp x) (.tmp (p + 8))]
/-- The region that adds what a statement's two expressions count. -/
theorem nodes_region {l n id : Nat} (ops : Array Oper) (p x y : Nat) (hx : x < p) (hy : y < p) (hok : okDet p 9 ops = true) (hops : ops.toList.map (·.op) = nodeOps p x y) (hdeps : ([(2, 1), (3, 2), (5, 4), (6, 5), (7, 3), (7, 6), (8, 0), (8, 7)].all fun q => depB ops q.1 q.2) = true)
    (W : World) (T : Array Value) (hT : p + 9 ≤ T.size) (g h : Nat) (u ca cb : Int) (ua va ub vb : Value) (wa wb : Value)
    (t3 : T.getD x undef = .pointer (some ⟨h, 0, none⟩)) (t5 : T.getD y undef = .pointer (some ⟨g, 0, none⟩))
    (hu : 0 ≤ u) (hca : 0 ≤ ca) (hcb : 0 ≤ cb) (hs : u + (ca + cb) ≤ 9223372036854775807)
    (c0 : W.cell? ⟨h, 0, none⟩ = some (.int .i64 u)) (f0 : W.frozen? ⟨h, 0, none⟩ = false) (hh : h < W.heap.size) (hg : g < W.heap.size)
    (c2 : W.cell? ⟨g, 2, none⟩ = some ua) (c3 : W.cell? ⟨g, 3, none⟩ = some va) (c4 : W.cell? ⟨g, 4, none⟩ = some wa)
    (c5 : W.cell? ⟨g, 5, none⟩ = some ub) (c6 : W.cell? ⟨g, 6, none⟩ = some vb) (c7 : W.cell? ⟨g, 7, none⟩ = some wb)
    (ha : ∀ W', Below W.heap.size W W' → Calls Tryz.prog 78 #[.agg #[ua, va, wa]] W' fun e w' => e = .returned (.int .i64 ca) ∧ Below W'.heap.size W' w')
    (hb : ∀ W', Below W.heap.size W W' → Calls Tryz.prog 78 #[.agg #[ub, vb, wb]] W' fun e w' => e = .returned (.int .i64 cb) ∧ Below W'.heap.size W' w')
    {Q : Exit → Act → World → Prop}
    (hQ : ∀ a W', Below W.heap.size W W' → Q .normal a (W'.setCell ⟨h, 0, none⟩ (.int .i64 (u + (ca + cb))))) :
    (Code.region id ops true).wpIn (Fence.wide.inRound l) n Tryz.prog Q ⟨T, []⟩ W := by
  have hop : ∀ (i : Nat) (o : Oper), ops[i]? = some o → (nodeOps p x y)[i]? = some o.op := fun i o ho => by
    rw [← hops, List.getElem?_map, Array.getElem?_toList, ho]
    rfl
  simp only [List.all_cons, List.all_nil, Bool.and_true, Bool.and_eq_true] at hdeps
  obtain ⟨d21, d32, d54, d65, d73, d76, d80, d87⟩ := hdeps
  obtain ⟨vs, hvs⟩ : ∃ vs : List Value, vs = [.int .i64 u, .pointer (some ⟨g, 2, none⟩), .agg #[ua, va, wa], .int .i64 ca, .pointer (some ⟨g, 5, none⟩), .agg #[ub, vb, wb], .int .i64 cb, .int .i64 (ca + cb), .int .i64 (u + (ca + cb))] := ⟨_, rfl⟩
  have hvl : vs.length = 9 := by rw [hvs]; rfl
  refine wpIn_region_det vs W T p (by omega) (by kernel_rfl) (by rw [hvl]; exact hok) ?_ ?_
  · intro i o ho hi a w hpre hdep hbl K hK
    have hoo := hop i o ho
    rw [hvl] at hi
    have hp3 := hpre x hx
    have hp5 := hpre y hy
    rw [t3] at hp3
    rw [t5] at hp5
    have dep : ∀ j v, depB ops i j = true → vs.getD j undef = v → a.eval (.tmp (p + j)) = v := fun j v hd hv => by
      obtain ⟨e, he, hbn, rfl⟩ := depB_spec ho hd
      rw [hdep e he hbn, hv]
    have hck : ∀ q : Addr, q.block < W.heap.size → w.cell? q = W.cell? q := fun q hq => hbl.cell hq
    obtain rfl | rfl | rfl | rfl | rfl | rfl | rfl | rfl | rfl : i = 0 ∨ i = 1 ∨ i = 2 ∨ i = 3 ∨ i = 4 ∨ i = 5 ∨ i = 6 ∨ i = 7 ∨ i = 8 := by omega
    · have e := (Option.some.inj hoo).symm
      refine wpIn_of_wp (fun c hc => by rw [hc] at e; cases e) (st_load x h u e hp3 ((hck ⟨h, 0, none⟩ hh).trans c0) ?_)
      have := hK w (Below.refl _ _)
      rwa [hvs] at this
    · have e := (Option.some.inj hoo).symm
      refine wpIn_of_wp (fun c hc => by rw [hc] at e; cases e) (st_field y g 2 2 e hp5 (.inl ⟨rfl, rfl⟩) ?_)
      have := hK w (Below.refl _ _)
      rwa [hvs] at this
    · have e := (Option.some.inj hoo).symm
      refine wpIn_of_wp (fun c hc => by rw [hc] at e; cases e) (st_loadE (p + 1) g 2 e (dep 1 _ d21 (by rw [hvs]; rfl)) ((hck ⟨g, 2, none⟩ hg).trans c2) ((hck ⟨g, 3, none⟩ hg).trans c3) ((hck ⟨g, 4, none⟩ hg).trans c4) ?_)
      have := hK w (Below.refl _ _)
      rwa [hvs] at this
    · have e := (Option.some.inj hoo).symm
      refine wpIn_of_wp (fun c hc => by rw [hc] at e; cases e) (st_count (p + 2) ca e (dep 2 _ d32 (by rw [hvs]; rfl)) (ha w hbl) fun w' hb' => ?_)
      have := hK w' hb'
      rwa [hvs] at this
    · have e := (Option.some.inj hoo).symm
      refine wpIn_of_wp (fun c hc => by rw [hc] at e; cases e) (st_field y g 3 5 e hp5 (.inr ⟨rfl, rfl⟩) ?_)
      have := hK w (Below.refl _ _)
      rwa [hvs] at this
    · have e := (Option.some.inj hoo).symm
      refine wpIn_of_wp (fun c hc => by rw [hc] at e; cases e) (st_loadE (p + 4) g 5 e (dep 4 _ d54 (by rw [hvs]; rfl)) ((hck ⟨g, 5, none⟩ hg).trans c5) ((hck ⟨g, 6, none⟩ hg).trans c6) ((hck ⟨g, 7, none⟩ hg).trans c7) ?_)
      have := hK w (Below.refl _ _)
      rwa [hvs] at this
    · have e := (Option.some.inj hoo).symm
      refine wpIn_of_wp (fun c hc => by rw [hc] at e; cases e) (st_count (p + 5) cb e (dep 5 _ d65 (by rw [hvs]; rfl)) (hb w hbl) fun w' hb' => ?_)
      have := hK w' hb'
      rwa [hvs] at this
    · have e := (Option.some.inj hoo).symm
      refine wpIn_of_wp (fun c hc => by rw [hc] at e; cases e) (st_add (p + 3) (p + 6) ca cb _ e (dep 3 _ d73 (by rw [hvs]; rfl)) (dep 6 _ d76 (by rw [hvs]; rfl)) rfl (by omega) (by omega) ?_)
      have := hK w (Below.refl _ _)
      rwa [hvs] at this
    · have e := (Option.some.inj hoo).symm
      refine wpIn_of_wp (fun c hc => by rw [hc] at e; cases e) (st_add p (p + 7) u (ca + cb) _ e (dep 0 _ d80 (by rw [hvs]; rfl)) (dep 7 _ d87 (by rw [hvs]; rfl)) rfl (by omega) (by omega) ?_)
      have := hK w (Below.refl _ _)
      rwa [hvs] at this
  · intro o ho w hbl
    rw [hvl] at ho
    have e := (Option.some.inj (hop 9 o ho)).symm
    have hl : (T.toList.take p).length = p := by simp; omega
    have e1 : (fr (T.toList.take p) vs (T.toList.drop (p + vs.length))).eval (.tmp x) = .pointer (some ⟨h, 0, none⟩) := by
      rw [fr_pre _ _ _ _ (by omega), List.getD_eq_getElem?_getD, List.getElem?_take_of_lt hx, ← t3, Array.getD_eq_getD_getElem?]
      simp
    have e2 : (fr (T.toList.take p) vs (T.toList.drop (p + vs.length))).eval (.tmp (p + 8)) = .int .i64 (u + (ca + cb)) := by
      have := fr_eval (T.toList.take p) vs (T.toList.drop (p + vs.length)) 8 (by omega)
      rw [hl] at this
      rw [this, hvs]
      rfl
    obtain ⟨a, hfa⟩ : ∃ a, a = fr (T.toList.take p) vs (T.toList.drop (p + vs.length)) := ⟨_, rfl⟩
    rw [← hfa] at e1 e2 ⊢
    have cc : w.cell? ⟨h, 0, none⟩ = some (.int .i64 u) := (hbl.cell (p := ⟨h, 0, none⟩) hh).trans c0
    have ff : w.frozen? ⟨h, 0, none⟩ = false := (hbl.frozen (p := ⟨h, 0, none⟩) hh).trans f0
    refine wpIn_of_wp (fun c hc => by rw [hc] at e; cases e) (st_store x (p + 8) h _ _ e e1 e2 cc ff ?_)
    exact hQ _ w hbl
/-- Block g holds the statement r. -/
def BoxS (W : World) (g : Nat) (r : Raw) : Prop := W.heap[g]? = some (.cells #[.int .u8 r.k, .int .i64 r.t, .int .u8 r.ao, .int .i64 r.an, .slice r.aA r.al r.ac, .int .u8 r.bo, .int .i64 r.bn, .slice r.bA r.bl r.bc, .slice r.yA r.yl r.yc, .slice r.eA r.el r.ec] 43 (0, 0))
theorem BoxS.new (W : World) (r : Raw) : BoxS (W.alloc (.cells #[.int .u8 r.k, .int .i64 r.t, .int .u8 r.ao, .int .i64 r.an, .slice r.aA r.al r.ac, .int .u8 r.bo, .int .i64 r.bn, .slice r.bA r.bl r.bc, .slice r.yA r.yl r.yc, .slice r.eA r.el r.ec] 43)) W.heap.size r := World.alloc_heap_new W _
theorem BoxS.lt {W : World} {g : Nat} {r : Raw} (h : BoxS W g r) : g < W.heap.size := (Array.getElem?_eq_some_iff.1 h).1
theorem BoxS.below {W W' : World} {B g : Nat} {r : Raw} (h : BoxS W g r) (hb : Below B W W') (hg : g < B) : BoxS W' g r := (hb.block g hg).trans h
theorem BoxS.set {W : World} {g h i : Nat} {r : Raw} {v : Value} (hs : BoxS W g r) (hne : g ≠ h) : BoxS (W.setCell ⟨h, i, none⟩ v) g r := (Below.heap_setCell W ⟨h, i, none⟩ v g hne).trans hs
theorem BoxS.own {β : Type} {B g : Nat} {r : Raw} : OwnFrom B (fun (_ : β) W => BoxS W g r) := fun _ X Y row hs hg hr => (hg.block g (BoxS.lt hs) (fun e => by
  obtain ⟨_, o, ho, hc⟩ := hr g e.symm
  rw [show X.heap[g]? = _ from hs] at ho
  cases ho
  cases hc)).trans hs
theorem BoxS.ten {W : World} {g : Nat} {r : Raw} (h : BoxS W g r) : Ten W ⟨g, 0, none⟩ r :=
  ⟨cell_row h 0, cell_row h 1, cell_row h 2, cell_row h 3, cell_row h 4, cell_row h 5, cell_row h 6, cell_row h 7, cell_row h 8, cell_row h 9⟩
/-- Of a statement: its two expressions have few parts, if they have an Op. -/
def Few (d : Nat) (s : St) : Prop := (s.a.op = 0 ∨ cnt d s.a ≤ 100000) ∧ (s.b.op = 0 ∨ cnt d s.b ≤ 100000)
theorem Few.le {d : Nat} {s : St} (h : Few d s) : cntE d s.a ≤ 100000 ∧ cntE d s.b ≤ 100000 := by
  obtain ⟨h1, h2⟩ := h
  unfold cntE
  constructor
  · split
    · omega
    · omega
  · split
    · omega
    · omega
theorem nodes_le {w : World} {hi D d : Nat} (l : List (El w hi D (Few d))) : nodesL d (l.map El.key) ≤ l.length * 200000 := by
  induction l with
  | nil => simp [nodesL]
  | cons x r ih =>
    have h1 := x.pr.le
    have h2 : nodesL d ((x :: r).map El.key) = (cntE d x.s.a + cntE d x.s.b) + nodesL d (r.map El.key) := by simp [nodesL, El.key, nodesOf]
    rw [h2, List.length_cons]
    omega
/-- A statement's two expressions, as they lie. -/
theorem SAt.ab {w : World} {lo hi d : Nat} {r : Raw} {s : St} (h : SAt w lo hi d r s) : At w lo hi d r.va s.a ∧ At w lo hi d r.vb s.b := by
  obtain ⟨d, rfl⟩ := h.pos
  obtain ⟨k, t, a, b, y, e⟩ := s
  obtain ⟨_, _, ha, hb, _⟩ := h.open_
  exact ⟨ha.more _ _ (by omega), hb.more _ _ (by omega)⟩
end Go.Proofs.YthdcdffdpdoeoaaGreatDoor
/-
  A REGION THAT DRAWS ITS ORDER, BY WHAT EACH OPERATION LEAVES: as XRi's, but with guards, temporaries in whatever places, and a last operation that waits for all. Conditions: no two operations have one temporary; memory only grows, but for the last operation.
-/
namespace Go.Proofs.YthdcdffdpdoeoaaGreatDoor
set_option maxRecDepth 100000
open Go.RowKit
set_option linter.unusedVariables false
/-- The temporaries ds of T, set. -/
def putAll : Array Value → List Nat → List Value → Array Value
  | T, d :: ds, u :: us => putAll (T.setIfInBounds d u) ds us
  | T, _, _ => T
theorem putAll_size : ∀ (ds : List Nat) (us : List Value) (T : Array Value), (putAll T ds us).size = T.size := by
  intro ds
  induction ds with
  | nil => intro us T; cases us <;> rfl
  | cons d ds ih => intro us T; cases us with
    | nil => rfl
    | cons u us => rw [putAll, ih]; simp
theorem putAll_comm : ∀ (ds : List Nat) (us : List Value) (T : Array Value) (d : Nat) (v : Value), d ∉ ds → putAll (T.setIfInBounds d v) ds us = (putAll T ds us).setIfInBounds d v := by
  intro ds
  induction ds with
  | nil => intro us T d v _; cases us <;> rfl
  | cons e ds ih => intro us T d v h; cases us with
    | nil => rfl
    | cons u us =>
      rw [putAll, putAll, Array.setIfInBounds_comm _ _ (by intro hc; exact h (by rw [hc]; exact List.mem_cons_self)), ih _ _ _ _ (fun hc => h (List.mem_cons_of_mem _ hc))]
theorem putAll_set : ∀ (ds : List Nat) (us : List Value) (T : Array Value) (i : Nat) (v : Value) (h : i < ds.length), ds.length = us.length → ds.Nodup → putAll T ds (us.set i v) = (putAll T ds us).setIfInBounds ds[i] v := by
  intro ds
  induction ds with
  | nil => intro us T i v h; exact absurd h (by simp)
  | cons d ds ih =>
    intro us T i v h hl hn
    cases us with
    | nil => cases hl
    | cons u us =>
      rw [List.nodup_cons] at hn
      cases i with
      | zero =>
        rw [List.set_cons_zero, putAll, putAll, List.getElem_cons_zero, ← putAll_comm _ _ _ _ _ hn.1]
        simp
      | succ i =>
        rw [List.set_cons_succ, putAll, putAll, ih _ _ _ _ (by simpa using h) (by simpa using hl) hn.2, List.getElem_cons_succ]
theorem putAll_far : ∀ (ds : List Nat) (us : List Value) (T : Array Value) (t : Nat), t ∉ ds → (putAll T ds us)[t]? = T[t]? := by
  intro ds
  induction ds with
  | nil => intro us T t _; cases us <;> rfl
  | cons d ds ih => intro us T t h; cases us with
    | nil => rfl
    | cons u us =>
      rw [putAll, ih _ _ _ (fun hc => h (List.mem_cons_of_mem _ hc)), Array.getElem?_setIfInBounds_ne (by intro hc; exact h (by rw [hc]; exact List.mem_cons_self))]
theorem putAll_at (T : Array Value) (ds : List Nat) (us : List Value) (i : Nat) (h : i < ds.length) (hl : ds.length = us.length) (hn : ds.Nodup) (hT : ds[i] < T.size) : (putAll T ds us)[ds[i]]? = us[i]? := by
  have h1 := putAll_set ds us T i (us[i]'(by omega)) h hl hn
  rw [List.set_getElem_self] at h1
  rw [h1, Array.getElem?_setIfInBounds_self_of_lt (by rw [putAll_size]; exact hT), List.getElem?_eq_getElem (by omega)]
theorem putAll_id : ∀ (ds : List Nat) (T : Array Value), ds.Nodup → (∀ d ∈ ds, d < T.size) → putAll T ds (ds.map fun d => T.getD d undef) = T := by
  intro ds
  induction ds with
  | nil => intro T _ _; rfl
  | cons d ds ih =>
    intro T hn hd
    have h0 := hd d List.mem_cons_self
    have hs : T.setIfInBounds d (T.getD d undef) = T := by
      apply Array.ext_getElem?
      intro i
      by_cases hi : i = d
      · subst hi
        rw [Array.getElem?_setIfInBounds_self_of_lt h0, Array.getD_eq_getD_getElem?, Array.getElem?_eq_getElem h0]
        rfl
      · rw [Array.getElem?_setIfInBounds_ne (fun hc => hi hc.symm)]
    rw [List.nodup_cons] at hn
    rw [List.map_cons, putAll, hs]
    exact ih T hn.2 fun x hx => hd x (List.mem_cons_of_mem _ hx)
/-- Each operation but the last has its own temporary; who waits for whom; the last waits for all. -/
def okGen (ds : List Nat) (ops : Array Oper) : Bool := ops.size == ds.length + 1 && ((List.range ds.length).all fun i => match ops[i]? with
  | some o => o.dst == ds[i]? && o.after.all fun e => !Region.binds .any e || decide (e.on < i)
  | none => false) && match ops[ds.length]? with
  | some o => o.dst.isNone && o.guard.isNone && (o.after.all fun e => !Region.binds .any e || decide (e.on < ds.length)) && (List.range ds.length).all fun j => o.after.any fun e => Region.binds .any e && e.on == j
  | none => false
section
variable {P : Program} {ops : Array Oper} {Q : Exit → Act → World → Prop}
theorem getD_both {l : Array Bool} {i : Nat} (h : i < l.size) (b c : Bool) : l.getD i b = l.getD i c := by
  rw [Array.getD_eq_getD_getElem?, Array.getD_eq_getD_getElem?, Array.getElem?_eq_getElem h]
  rfl
def GI (S : Nat → Value → World → Prop) (ds : List Nat) (W : World) (T : Array Value) (ops : Array Oper) (Q : Exit → Act → World → Prop) (listed : Array Bool) (a : Act) (w : World) : Prop := listed.size = ops.size ∧ ((listed.getD ds.length true = false ∧ ∃ us : List Value, us.length = ds.length ∧ a = ⟨putAll T ds us, []⟩ ∧ Below W.heap.size W w ∧ ∀ i, i < ds.length → listed.getD i true = true → S i (us.getD i undef) w) ∨ ((∀ j, j < ops.size → listed.getD j true = true) ∧ Q .normal a w))
theorem wp_region_gen {id : Nat} (S : Nat → Value → World → Prop) (ds : List Nat) (W : World) (T : Array Value) (hn : ds.Nodup) (hd : ∀ d ∈ ds, d < T.size) (hm : P.follows .mixedOrders = true) (hops : okGen ds ops = true)
    (hmono : ∀ i v w w', Below W.heap.size W w → Below w.heap.size w w' → S i v w → S i v w')
    (hstep : ∀ i o, ops[i]? = some o → i < ds.length → ∀ (a : Act) (w : World), (∀ t, t ∉ ds → a.tmps[t]? = T[t]?) → (∀ e ∈ o.after.toList, Region.binds .any e = true → ∃ v, a.tmps[ds.getD e.on 0]? = some v ∧ S e.on v w) → Below W.heap.size W w →
      ∀ K : Act → World → Prop, (∀ v w', Below w.heap.size w w' → S i v w' → K (a.put o.dst v) w') → if Region.wanted o (yielded ops a.tmps) = true then Oper.wp P o a w K Q else K (a.put o.dst undef) w)
    (hlast : ∀ o us w, ops[ds.length]? = some o → us.length = ds.length → Below W.heap.size W w → (∀ i, i < ds.length → S i (us.getD i undef) w) → Oper.wp P o ⟨putAll T ds us, []⟩ w (fun a w => Q .normal a w) Q) :
    (Code.region id ops true).wp P Q ⟨T, []⟩ W := by
  unfold okGen at hops
  simp only [Bool.and_eq_true, beq_iff_eq] at hops
  obtain ⟨⟨hsz, hbase⟩, hla⟩ := hops
  have hb : ∀ (i : Nat) (o : Oper) (hi : i < ds.length), ops[i]? = some o → o.dst = some ds[i] ∧ ∀ e ∈ o.after.toList, Region.binds .any e = true → e.on < i := by
    intro i o hi ho
    have h1 := List.all_eq_true.1 hbase i (by simpa using hi)
    rw [ho] at h1
    simp only [Bool.and_eq_true, beq_iff_eq] at h1
    refine ⟨by rw [h1.1, List.getElem?_eq_getElem hi], fun e he hbn => ?_⟩
    have h2 := Array.all_eq_true'.1 h1.2 e (by simpa using he)
    simpa [hbn] using h2
  have hL : ∃ o, ops[ds.length]? = some o ∧ o.dst = none ∧ o.guard = none ∧ (∀ e ∈ o.after.toList, Region.binds .any e = true → e.on < ds.length) ∧ ∀ j, j < ds.length → ∃ e ∈ o.after.toList, Region.binds .any e = true ∧ e.on = j := by
    cases ho : ops[ds.length]? with
    | none => rw [ho] at hla; cases hla
    | some o =>
      rw [ho] at hla
      simp only [Bool.and_eq_true, Option.isNone_iff_eq_none] at hla
      obtain ⟨⟨⟨h1, h2⟩, h3⟩, h4⟩ := hla
      refine ⟨o, rfl, h1, h2, fun e he hbn => ?_, fun j hj => ?_⟩
      · have h5 := Array.all_eq_true'.1 h3 e (by simpa using he)
        simpa [hbn] using h5
      · have h5 := List.all_eq_true.1 h4 j (by simpa using hj)
        obtain ⟨e, he, h6⟩ := Array.any_eq_true'.1 h5
        simp only [Bool.and_eq_true, beq_iff_eq] at h6
        exact ⟨e, by simpa using he, h6.1, h6.2⟩
  obtain ⟨oL, hoL, d1, d2, d3, d4⟩ := hL
  have hall : ∀ (i : Nat) (o : Oper), ops[i]? = some o → ∀ e ∈ o.after.toList, Region.binds .any e = true → e.on < i := by
    intro i o ho e he hbn
    have hi : i < ops.size := (Array.getElem?_eq_some_iff.1 ho).1
    by_cases hv : i < ds.length
    · exact (hb i o hv ho).2 e he hbn
    · obtain rfl : i = ds.length := by omega
      rw [hoL] at ho
      cases ho
      exact d3 e he hbn
  have hat : ∀ (us : List Value) (i : Nat) (hi : i < ds.length), us.length = ds.length → (putAll T ds us)[ds[i]]? = some (us.getD i undef) := fun us i hi hu => by
    rw [putAll_at T ds us i hi hu.symm hn (hd _ (List.getElem_mem hi)), List.getD_eq_getElem?_getD, List.getElem?_eq_getElem (by omega)]
    rfl
  refine wp_region_any hm ?_
  refine wpAny_inv (I := GI S ds W T ops Q) (fun _ _ _ h => h.1) ?_ ?_ _ _ _ _ ⟨by simp, .inl ⟨by simp [hsz], ds.map (fun d => T.getD d undef), by simp, by rw [putAll_id ds T hn hd], (Below.refl _ _).drew, fun i hi h => ?_⟩⟩ ?_
  · rintro listed a w ⟨hs, h⟩ i hi
    obtain ⟨h1, h2, h3⟩ := ready_of hi
    rcases h with ⟨hnl, us, hu, rfl, hbl, hS⟩ | ⟨ha, _⟩
    · have ho : ops[i]? = some ops[i] := Array.getElem?_eq_getElem h1
      unfold wpOp
      rw [ho]
      by_cases hv : i < ds.length
      · obtain ⟨o1, o3⟩ := hb i _ hv ho
        have hnext : ∀ (v : Value) (w' : World), Below w.heap.size w w' → S i v w' → GI S ds W T ops Q (listed.setIfInBounds i true) ((⟨putAll T ds us, []⟩ : Act).put ops[i].dst v) w' := fun v w' hb' hv' => by
          refine ⟨by simpa using hs, .inl ⟨?_, us.set i v, by simpa using hu, ?_, hbl.trans (hb'.mono hbl.size), fun j hj hlj => ?_⟩⟩
          · rw [Array.getD_eq_getD_getElem?, Array.getElem?_setIfInBounds_ne (by omega), ← Array.getD_eq_getD_getElem?]
            exact hnl
          · rw [o1, putAll_set ds us T i v hv hu.symm hn]
            rfl
          · by_cases hji : j = i
            · subst hji
              rw [List.getD_eq_getElem?_getD, List.getElem?_set_self (by omega)]
              exact hv'
            · rw [List.getD_eq_getElem?_getD, List.getElem?_set_ne (by omega), ← List.getD_eq_getElem?_getD]
              refine hmono j _ w w' hbl hb' (hS j hj ?_)
              rw [Array.getD_eq_getD_getElem?, Array.getElem?_setIfInBounds_ne (by omega), ← Array.getD_eq_getD_getElem?] at hlj
              exact hlj
        have hst := hstep i _ ho hv ⟨putAll T ds us, []⟩ w (fun t ht => putAll_far _ _ _ _ ht) (fun e he hbn => ?_) hbl (fun a' w' => GI S ds W T ops Q (listed.setIfInBounds i true) a' w') hnext
        · by_cases hw : Region.wanted ops[i] (yielded ops (putAll T ds us)) = true
          · have hst' : (if Region.wanted ops[i] (yielded ops (⟨putAll T ds us, []⟩ : Act).tmps) = true then _ else _) := hst
            rw [if_pos hw] at hst'
            simp only [hw, if_true]
            exact .inl hst'
          · have hst' : (if Region.wanted ops[i] (yielded ops (⟨putAll T ds us, []⟩ : Act).tmps) = true then _ else _) := hst
            rw [if_neg hw] at hst'
            simp only [hw]
            exact hst'
        · have hlt := o3 e he hbn
          refine ⟨us.getD e.on undef, ?_, hS e.on (by omega) ?_⟩
          · have hge : ds.getD e.on 0 = ds[e.on]'(by omega) := by rw [List.getD_eq_getElem?_getD, List.getElem?_eq_getElem (show e.on < ds.length by omega)]; rfl
            rw [hge]
            exact hat us e.on (by omega) hu
          · rw [getD_both (by omega) true false]
            exact h3 _ ho e he hbn
      · obtain rfl : i = ds.length := by omega
        have hoo : ops[ds.length] = oL := by rw [hoL] at ho; exact (Option.some.inj ho).symm
        have hw : Region.wanted ops[ds.length] (yielded ops (⟨putAll T ds us, []⟩ : Act).tmps) = true := by simp [Region.wanted, hoo, d2]
        simp only [hw, if_true]
        have hle : ∀ j, j < ds.length → listed.getD j true = true := fun j hj => by
          obtain ⟨e, he, hbn, rfl⟩ := d4 j hj
          rw [getD_both (by omega) true false]
          exact h3 _ hoL e he hbn
        refine .inl (Oper.wp_mono (fun a' w' hq => ?_) (hlast _ us w ho hu hbl fun j hj => hS j hj (hle j hj)))
        refine ⟨by simpa using hs, .inr ⟨fun j hj => ?_, hq⟩⟩
        by_cases hjl : j = ds.length
        · subst hjl
          rw [Array.getD_eq_getD_getElem?, Array.getElem?_setIfInBounds_self_of_lt (by omega)]
          rfl
        · rw [Array.getD_eq_getD_getElem?, Array.getElem?_setIfInBounds_ne (by omega), ← Array.getD_eq_getD_getElem?]
          exact hle j (by omega)
    · rw [ha i h1] at h2
      cases h2
  · rintro listed a w ⟨hs, h⟩ hr
    rcases h with ⟨hnl, _⟩ | ⟨_, hq⟩
    · have := ready_some hall hr hs ds.length (by omega)
      rw [this] at hnl
      cases hnl
    · exact hq
  · rw [Array.getD_eq_getD_getElem?, Array.getElem?_replicate, if_pos (by omega)] at h
    cases h
  · have hle : ∀ (p : Nat → Bool) n, cntR p n ≤ n := fun p n => by
      induction n with
      | zero => exact Nat.le_refl _
      | succ n ih => rw [cntR]; split <;> omega
    exact hle _ _
end
end Go.Proofs.YthdcdffdpdoeoaaGreatDoor
/-
  CONTRACT OF PACKAGE code's shaped: whether a statement of the transaction n is shaped; the memory that was there stays as it was. Conditions: the table of what each Kind asks lies as its initialiser lays it; as they stand.
-/
namespace Go.Proofs.YthdcdffdpdoeoaaGreatDoor
set_option maxRecDepth 100000
open Go.RowKit
set_option linter.unusedVariables false
/-- The table of what each Kind asks, as it lies. -/
def Kd (w : World) : Prop := ∀ k, k < 9 → w.cell? ⟨0, k * 5, none⟩ = some (.bool (ask k).to) ∧ w.cell? ⟨0, k * 5 + 1, none⟩ = some (.bool (ask k).a) ∧ w.cell? ⟨0, k * 5 + 2, none⟩ = some (.bool (ask k).b) ∧ w.cell? ⟨0, k * 5 + 3, none⟩ = some (.bool (ask k).body) ∧ w.cell? ⟨0, k * 5 + 4, none⟩ = some (.bool (ask k).els)
theorem there_block {w : World} {p : Addr} {v : Value} (h : w.cell? p = some v) : p.block < w.heap.size := by
  unfold World.cell? at h
  rcases Nat.lt_or_ge p.block w.heap.size with hh | hh
  · exact hh
  · rw [Array.getElem?_eq_none hh] at h; simp at h
theorem Kd.pos {w : World} (h : Kd w) : 0 < w.heap.size := there_block (h 0 (by omega)).1
theorem Kd.below {w w' : World} {B : Nat} (h : Kd w) (hb : Below B w w') (hB : w.heap.size ≤ B) : Kd w' := fun k hk => by
  have hp := h.pos
  obtain ⟨a, b, c, d, e⟩ := h k hk
  exact ⟨(hb.cell (p := ⟨_, _, none⟩) (by show 0 < B; omega)).trans a, (hb.cell (p := ⟨_, _, none⟩) (by show 0 < B; omega)).trans b, (hb.cell (p := ⟨_, _, none⟩) (by show 0 < B; omega)).trans c, (hb.cell (p := ⟨_, _, none⟩) (by show 0 < B; omega)).trans d, (hb.cell (p := ⟨_, _, none⟩) (by show 0 < B; omega)).trans e⟩
set_option maxRecDepth 100000 in
theorem eql_asks (x1 x2 x3 x4 x5 y1 y2 y3 y4 y5 : Bool) (w : World) : (Go.binOp .eql 141 (.agg #[.bool x1, .bool x2, .bool x3, .bool x4, .bool x5]) (.agg #[.bool y1, .bool y2, .bool y3, .bool y4, .bool y5])).run Tryz.prog w = .ok (.bool (x1 == y1 && (x2 == y2 && (x3 == y3 && (x4 == y4 && x5 == y5))))) w := by
  have hu := Tryz.underlying141
  have hb := Tryz.underlying4
  rw [run_eql_struct, show (10000 : Nat) = 9999 + 1 from rfl, run_equalIn_agg w 9999 141 _ _ (by kernel_rfl) (by kernel_rfl)]
  simp only [Program.fieldsOf, hu]
  rw [show (9999 : Nat) = 9998 + 1 from rfl]
  have hsz := Tryz.sizeOf4
  have hia := Tryz.isAgg4
  simp [Op.eqFields, go_sem]
  by_cases h1 : x1 = y1 <;> by_cases h2 : x2 = y2 <;> by_cases h3 : x3 = y3 <;> by_cases h4 : x4 = y4 <;> by_cases h5 : x5 = y5 <;> simp [*]
/-- A box of what a Kind asks. -/
structure Five (w : World) (g : Nat) (x0 x1 x2 x3 x4 : Bool) : Prop where
  c0 : w.cell? ⟨g, 0, none⟩ = some (.bool x0)
  c1 : w.cell? ⟨g, 1, none⟩ = some (.bool x1)
  c2 : w.cell? ⟨g, 2, none⟩ = some (.bool x2)
  c3 : w.cell? ⟨g, 3, none⟩ = some (.bool x3)
  c4 : w.cell? ⟨g, 4, none⟩ = some (.bool x4)
theorem Five.below {w w' : World} {B g : Nat} {x0 x1 x2 x3 x4 : Bool} (h : Five w g x0 x1 x2 x3 x4) (hb : Below B w w') (hg : g < B) : Five w' g x0 x1 x2 x3 x4 :=
  ⟨(hb.cell (p := ⟨g, _, none⟩) hg).trans h.c0, (hb.cell (p := ⟨g, _, none⟩) hg).trans h.c1, (hb.cell (p := ⟨g, _, none⟩) hg).trans h.c2, (hb.cell (p := ⟨g, _, none⟩) hg).trans h.c3, (hb.cell (p := ⟨g, _, none⟩) hg).trans h.c4⟩
theorem Five.new (w : World) (x0 x1 x2 x3 x4 : Bool) : Five (w.alloc (.cells #[.bool x0, .bool x1, .bool x2, .bool x3, .bool x4] 141)) w.heap.size x0 x1 x2 x3 x4 :=
  ⟨World.cell?_alloc_mark w _ _ (0, 0) 0, World.cell?_alloc_mark w _ _ (0, 0) 1, World.cell?_alloc_mark w _ _ (0, 0) 2, World.cell?_alloc_mark w _ _ (0, 0) 3, World.cell?_alloc_mark w _ _ (0, 0) 4⟩
theorem ten_five {W w' : World} {g h : Nat} {r : Raw} {x0 x1 x2 x3 x4 : Bool} (t : Ten w' ⟨g, 0, none⟩ r) (q : Five w' h x0 x1 x2 x3 x4) (b : Below W.heap.size W w') :
    w'.cell? ⟨g, 1, none⟩ = some (.int .i64 r.t) ∧ w'.cell? ⟨g, 2, none⟩ = some (.int .u8 r.ao) ∧ w'.cell? ⟨g, 3, none⟩ = some (.int .i64 r.an) ∧ w'.cell? ⟨g, 4, none⟩ = some (.slice r.aA r.al r.ac) ∧ w'.cell? ⟨g, 5, none⟩ = some (.int .u8 r.bo) ∧ w'.cell? ⟨g, 6, none⟩ = some (.int .i64 r.bn) ∧ w'.cell? ⟨g, 7, none⟩ = some (.slice r.bA r.bl r.bc) ∧ w'.cell? ⟨g, 8, none⟩ = some (.slice r.yA r.yl r.yc) ∧ w'.cell? ⟨g, 9, none⟩ = some (.slice r.eA r.el r.ec) ∧
      w'.cell? ⟨h, 0, none⟩ = some (.bool x0) ∧ w'.cell? ⟨h, 1, none⟩ = some (.bool x1) ∧ w'.cell? ⟨h, 2, none⟩ = some (.bool x2) ∧ w'.cell? ⟨h, 3, none⟩ = some (.bool x3) ∧ w'.cell? ⟨h, 4, none⟩ = some (.bool x4) ∧ Below W.heap.size W w' := by
  have c1 := t.c1
  have c2 := t.c2
  have c3 := t.c3
  have c4 := t.c4
  have c5 := t.c5
  have c6 := t.c6
  have c7 := t.c7
  have c8 := t.c8
  have c9 := t.c9
  rw [Nat.zero_add] at c1 c2 c3 c4 c5 c6 c7 c8 c9
  exact ⟨c1, c2, c3, c4, c5, c6, c7, c8, c9, q.c0, q.c1, q.c2, q.c3, q.c4, b⟩
set_option maxRecDepth 100000 in
theorem shaped_out (d : Nat) (rk : Nat) (rt : Int) (rao : Nat) (ran : Int) (raA : Option Addr) (ral rac rbo : Nat) (rbn : Int) (rbA : Option Addr) (rbl rbc : Nat) (ryA : Option Addr) (ryl ryc : Nat) (reA : Option Addr) (rel r9c : Nat) (n : Int) (w : World) (h : rk < 1 ∨ 8 < rk) :
    Calls Tryz.prog 77 #[.agg #[.int .u8 rk, .int .i64 rt, .int .u8 rao, .int .i64 ran, .slice raA ral rac, .int .u8 rbo, .int .i64 rbn, .slice rbA rbl rbc, .slice ryA ryl ryc, .slice reA rel r9c], .int .i64 n] w fun e w' => e = .returned (.bool false) ∧ Below w.heap.size w w' := by
  have HB : Hid (Below w.heap.size w (w.alloc (.cells #[.int .u8 rk, .int .i64 rt, .int .u8 rao, .int .i64 ran, .slice raA ral rac, .int .u8 rbo, .int .i64 rbn, .slice rbA rbl rbc, .slice ryA ryl ryc, .slice reA rel r9c] 43))) := (Below.refl _ _).alloc (Nat.le_refl _) _
  rcases h with h | h
  · go_enter Tryz.func77, Tryz.ntmps77
    go_wp2_with fail
    go_ret
    exact ⟨rfl, HB.out⟩
  · go_enter Tryz.func77, Tryz.ntmps77
    go_wp2_with fail
    go_ret
    exact ⟨rfl, HB.out⟩
end Go.Proofs.YthdcdffdpdoeoaaGreatDoor
/-
  THE REGION OF PACKAGE code's shaped THAT DRAWS ITS ORDER: what a statement has is laid in a box, whatever the order. Conditions: as they stand. (Laid by gen_sh.py.)
-/
namespace Go.Proofs.YthdcdffdpdoeoaaGreatDoor
set_option maxRecDepth 100000
open Go.RowKit
set_option linter.unusedVariables false
section
variable {a : Act} {w : World} {K : Act → World → Prop} {Q : Exit → Act → World → Prop} {o : Oper}
theorem ev_some {x : Nat} {v : Value} (h : a.tmps[x]? = some v) : a.tmps[x]?.getD undef = v := by rw [h]; rfl
theorem sl_fa (x g f : Nat) (ho : o.op = .fieldAddr 141 (.tmp x) f) (hx : a.tmps[x]?.getD undef = .pointer (some ⟨g, 0, none⟩)) (hf : f = 0 ∨ f = 3 ∨ f = 4) (hK : K (a.put o.dst (.pointer (some ⟨g, f, none⟩))) w) : Oper.wp Tryz.prog o a w K Q := by
  obtain ⟨dst, op, type, pos, after, guard⟩ := o
  have ho' : op = _ := ho
  subst ho'
  clear ho
  rcases hf with rfl | rfl | rfl
  all_goals
    go_simp
    exact hK
theorem sl_fs (x g f off : Nat) (ho : o.op = .fieldAddr 43 (.tmp x) f) (hx : a.tmps[x]?.getD undef = .pointer (some ⟨g, 0, none⟩)) (hf : (f = 1 ∧ off = 1) ∨ (f = 2 ∧ off = 2) ∨ (f = 3 ∧ off = 5) ∨ (f = 4 ∧ off = 8) ∨ (f = 5 ∧ off = 9)) (hK : K (a.put o.dst (.pointer (some ⟨g, off, none⟩))) w) : Oper.wp Tryz.prog o a w K Q := by
  obtain ⟨dst, op, type, pos, after, guard⟩ := o
  have ho' : op = _ := ho
  subst ho'
  clear ho
  rcases hf with ⟨rfl, rfl⟩ | ⟨rfl, rfl⟩ | ⟨rfl, rfl⟩ | ⟨rfl, rfl⟩ | ⟨rfl, rfl⟩
  all_goals
    go_simp
    exact hK
theorem sl_loadB (x g i : Nat) (b : Bool) (ho : o.op = .load 4 (.tmp x)) (hx : a.tmps[x]?.getD undef = .pointer (some ⟨g, i, none⟩)) (hc : w.cell? ⟨g, i, none⟩ = some (.bool b)) (hK : K (a.put o.dst (.bool b)) w) : Oper.wp Tryz.prog o a w K Q := by
  obtain ⟨dst, op, type, pos, after, guard⟩ := o
  have ho' : op = _ := ho
  subst ho'
  clear ho
  have hi := Tryz.isAgg4
  go_simp
  exact hK
theorem sl_loadI (x g i : Nat) (n : Int) (ho : o.op = .load 3 (.tmp x)) (hx : a.tmps[x]?.getD undef = .pointer (some ⟨g, i, none⟩)) (hc : w.cell? ⟨g, i, none⟩ = some (.int .i64 n)) (hK : K (a.put o.dst (.int .i64 n)) w) : Oper.wp Tryz.prog o a w K Q := by
  obtain ⟨dst, op, type, pos, after, guard⟩ := o
  have ho' : op = _ := ho
  subst ho'
  clear ho
  have hi := Tryz.isAgg3
  go_simp
  exact hK
theorem sl_loadS (x g i : Nat) (A : Option Addr) (l c : Nat) (ho : o.op = .load 41 (.tmp x)) (hx : a.tmps[x]?.getD undef = .pointer (some ⟨g, i, none⟩)) (hc : w.cell? ⟨g, i, none⟩ = some (.slice A l c)) (hK : K (a.put o.dst (.slice A l c)) w) : Oper.wp Tryz.prog o a w K Q := by
  obtain ⟨dst, op, type, pos, after, guard⟩ := o
  have ho' : op = _ := ho
  subst ho'
  clear ho
  have hi := Tryz.isAgg41
  go_simp
  exact hK
theorem sl_loadE (x g i : Nat) {u v z : Value} (ho : o.op = .load 40 (.tmp x)) (hx : a.tmps[x]?.getD undef = .pointer (some ⟨g, i, none⟩)) (c0 : w.cell? ⟨g, i, none⟩ = some u) (c1 : w.cell? ⟨g, i + 1, none⟩ = some v) (c2 : w.cell? ⟨g, i + 2, none⟩ = some z) (hK : K (a.put o.dst (.agg #[u, v, z])) w) : Oper.wp Tryz.prog o a w K Q := by
  obtain ⟨dst, op, type, pos, after, guard⟩ := o
  have ho' : op = _ := ho
  subst ho'
  clear ho
  have hi := Tryz.isAgg40
  have hs := Tryz.sizeOf40
  go_simp
  exact hK
theorem sl_moveB (x : Nat) (b : Bool) (ho : o.op = .move (.tmp x)) (hx : a.tmps[x]?.getD undef = .bool b) (hK : K (a.put o.dst (.bool b)) w) : Oper.wp Tryz.prog o a w K Q := by
  obtain ⟨dst, op, type, pos, after, guard⟩ := o
  have ho' : op = _ := ho
  subst ho'
  clear ho
  go_simp
  exact hK
theorem sl_not (x : Nat) (b : Bool) (ho : o.op = .unOp .not 4 (.tmp x)) (hx : a.tmps[x]?.getD undef = .bool b) (hK : K (a.put o.dst (.bool (!b))) w) : Oper.wp Tryz.prog o a w K Q := by
  obtain ⟨dst, op, type, pos, after, guard⟩ := o
  have ho' : op = _ := ho
  subst ho'
  clear ho
  go_simp
  exact hK
theorem sl_neq (x : Nat) (n : Int) (ho : o.op = .binOp .neq 3 (.tmp x) (.const (.int .i64 0)) 3) (hx : a.tmps[x]?.getD undef = .int .i64 n) (hK : K (a.put o.dst (.bool (n != 0))) w) : Oper.wp Tryz.prog o a w K Q := by
  obtain ⟨dst, op, type, pos, after, guard⟩ := o
  have ho' : op = _ := ho
  subst ho'
  clear ho
  go_simp
  exact hK
theorem sl_gtr (x : Nat) (n : Nat) (ho : o.op = .binOp .gtr 3 (.tmp x) (.const (.int .i64 0)) 3) (hx : a.tmps[x]?.getD undef = .int .i64 n) (hK : K (a.put o.dst (.bool (decide (0 < n)))) w) : Oper.wp Tryz.prog o a w K Q := by
  obtain ⟨dst, op, type, pos, after, guard⟩ := o
  have ho' : op = _ := ho
  subst ho'
  clear ho
  go_simp
  exact hK
theorem sl_pick1 (x y : Nat) (ho : o.op = .pick (.tmp x) (.const (.bool true)) (.tmp y)) (hx : a.tmps[x]?.getD undef = .bool true) (hK : K (a.put o.dst (.bool true)) w) : Oper.wp Tryz.prog o a w K Q := by
  obtain ⟨dst, op, type, pos, after, guard⟩ := o
  have ho' : op = _ := ho
  subst ho'
  clear ho
  go_simp
  exact hK
theorem sl_pick0 (x y : Nat) (b : Bool) (ho : o.op = .pick (.tmp x) (.const (.bool true)) (.tmp y)) (hx : a.tmps[x]?.getD undef = .bool false) (hy : a.tmps[y]?.getD undef = .bool b) (hK : K (a.put o.dst (.bool b)) w) : Oper.wp Tryz.prog o a w K Q := by
  obtain ⟨dst, op, type, pos, after, guard⟩ := o
  have ho' : op = _ := ho
  subst ho'
  clear ho
  go_simp
  exact hK
theorem sl_len (x : Nat) (A : Option Addr) (l c : Nat) (ho : o.op = .call { callee := .builtin .len, args := #[.tmp x], argTypes := #[41] }) (hx : a.tmps[x]?.getD undef = .slice A l c) (hK : K (a.put o.dst (.int .i64 l)) w) : Oper.wp Tryz.prog o a w K Q := by
  obtain ⟨dst, op, type, pos, after, guard⟩ := o
  have ho' : op = _ := ho
  subst ho'
  clear ho
  go_simp
  exact hK
theorem sl_build (b0 b1 b2 b3 b4 : Bool) (ho : o.op = .build 141 #[(0, .tmp 25), (1, .tmp 29), (2, .tmp 33), (3, .tmp 41), (4, .tmp 49)]) (h0 : a.tmps[25]?.getD undef = .bool b0) (h1 : a.tmps[29]?.getD undef = .bool b1) (h2 : a.tmps[33]?.getD undef = .bool b2) (h3 : a.tmps[41]?.getD undef = .bool b3) (h4 : a.tmps[49]?.getD undef = .bool b4) (hK : K (a.put o.dst (.agg #[.bool b0, .bool b1, .bool b2, .bool b3, .bool b4])) w) : Oper.wp Tryz.prog o a w K Q := by
  obtain ⟨dst, op, type, pos, after, guard⟩ := o
  have ho' : op = _ := ho
  subst ho'
  clear ho
  go_simp
  exact hK
theorem sl_alloc  (ho : o.op = .alloc 141) (hK : K (a.put o.dst (.pointer (some ⟨w.heap.size, 0, none⟩))) (w.alloc (.cells #[.bool false, .bool false, .bool false, .bool false, .bool false] 141))) : Oper.wp Tryz.prog o a w K Q := by
  obtain ⟨dst, op, type, pos, after, guard⟩ := o
  have ho' : op = _ := ho
  subst ho'
  clear ho
  go_simp
  exact hK
theorem sl_none (x : Nat) {v : Value} (r : Bool) (ho : o.op = .call { callee := .value (.func 91), args := #[.tmp x], argTypes := #[40] }) (hx2 : a.tmps[x]?.getD undef = v)
    (hc : Calls Tryz.prog 91 #[v] w fun e w' => e = .returned (.bool r) ∧ Below w.heap.size w w') (hK : ∀ w', Below w.heap.size w w' → K (a.put o.dst (.bool r)) w') : Oper.wp Tryz.prog o a w K Q := by
  obtain ⟨dst, op, type, pos, after, guard⟩ := o
  have ho' : op = _ := ho
  subst ho'
  have h1 := Tryz.func91
  have HC := Lib.hid hc
  clear ho hc
  go_simp
  refine HC.out.mono ?_
  rintro e w' ⟨rfl, hb⟩
  exact hK w' hb
theorem sl_store (g : Nat) (b0 b1 b2 b3 b4 : Bool) (ho : o.op = .store 141 (.tmp 6) (.tmp 50)) (hx : a.tmps[6]?.getD undef = .pointer (some ⟨g, 0, none⟩)) (hy : a.tmps[50]?.getD undef = .agg #[.bool b0, .bool b1, .bool b2, .bool b3, .bool b4])
    (hw : w.heap[g]? = some (.cells #[.bool false, .bool false, .bool false, .bool false, .bool false] 141 (0, 0)))
    (hK : K (a.put o.dst undef) (((((w.setCell ⟨g, 0, none⟩ (.bool b0)).setCell ⟨g, 1, none⟩ (.bool b1)).setCell ⟨g, 2, none⟩ (.bool b2)).setCell ⟨g, 3, none⟩ (.bool b3)).setCell ⟨g, 4, none⟩ (.bool b4))) : Oper.wp Tryz.prog o a w K Q := by
  obtain ⟨dst, op, type, pos, after, guard⟩ := o
  have ho' : op = _ := ho
  subst ho'
  clear ho
  have c0 : w.cell? ⟨g, 0, none⟩ = some (.bool false) := by simp [World.cell?, hw]
  have c1 : w.cell? ⟨g, 1, none⟩ = some (.bool false) := by simp [World.cell?, hw]
  have c2 : w.cell? ⟨g, 2, none⟩ = some (.bool false) := by simp [World.cell?, hw]
  have c3 : w.cell? ⟨g, 3, none⟩ = some (.bool false) := by simp [World.cell?, hw]
  have c4 : w.cell? ⟨g, 4, none⟩ = some (.bool false) := by simp [World.cell?, hw]
  have f0 : ∀ i, w.frozen? ⟨g, i, none⟩ = false := fun i => by simp [World.frozen?, hw]
  clear hw
  go_simp
  exact hK
end
theorem cell_of_row5 {W : World} {g : Nat} {cs : Array Value} {t : TypeId} (h : W.heap[g]? = some (.cells cs t (0, 0))) (i : Nat) : W.cell? ⟨g, i, none⟩ = cs[i]? := by simp [World.cell?, h]
theorem wanted_none {o : Oper} {y : Nat → Option Bool} (h : o.guard = none) : Region.wanted o y = true := by simp [Region.wanted, h]
theorem wanted_some {o : Oper} {y : Nat → Option Bool} {j : Nat} {b b' : Bool} (h : o.guard = some (j, b)) (hy : y j = some b') : Region.wanted o y = (b' == b) := by
  simp [Region.wanted, h, hy]
theorem yields_some {ops : Array Oper} {T : Array Value} {j d : Nat} {b : Bool} (hd : (ops[j]?).bind (·.dst) = some d) (ht : T[d]? = some (.bool b)) : yielded ops T j = some b := by
  unfold yielded
  rw [hd]
  simp [ht]
def depG (ops : Array Oper) (i j : Nat) : Bool := match ops[i]? with
  | some o => o.after.any fun e => Region.binds .any e && e.on == j
  | none => false
theorem depG_spec {ops : Array Oper} {i j : Nat} {o : Oper} (ho : ops[i]? = some o) (h : depG ops i j = true) : ∃ e ∈ o.after.toList, Region.binds .any e = true ∧ e.on = j := by
  unfold depG at h
  rw [ho] at h
  obtain ⟨e, he, h6⟩ := Array.any_eq_true'.1 h
  simp only [Bool.and_eq_true, beq_iff_eq] at h6
  exact ⟨e, by simpa using he, h6.1, h6.2⟩
def shDs : List Nat := [19, 20, 21, 22, 23, 24, 25, 26, 27, 28, 29, 30, 31, 32, 33, 34, 35, 36, 37, 38, 39, 40, 41, 42, 43, 44, 45, 46, 47, 48, 49, 50, 6]
def shOps : List Op := [.fieldAddr 141 (.tmp 5) 0,
  .load 4 (.tmp 19),
  .move (.tmp 20),
  .fieldAddr 43 (.tmp 2) 1,
  .load 3 (.tmp 22),
  .binOp .neq 3 (.tmp 23) (.const (.int .i64 0)) 3,
  .pick (.tmp 21) (.const (.bool true)) (.tmp 24),
  .fieldAddr 43 (.tmp 2) 2,
  .load 40 (.tmp 26),
  .call { callee := .value (.func 91), args := #[.tmp 27], argTypes := #[40] },
  .unOp .not 4 (.tmp 28),
  .fieldAddr 43 (.tmp 2) 3,
  .load 40 (.tmp 30),
  .call { callee := .value (.func 91), args := #[.tmp 31], argTypes := #[40] },
  .unOp .not 4 (.tmp 32),
  .fieldAddr 141 (.tmp 5) 3,
  .load 4 (.tmp 34),
  .move (.tmp 35),
  .fieldAddr 43 (.tmp 2) 4,
  .load 41 (.tmp 37),
  .call { callee := .builtin .len, args := #[.tmp 38], argTypes := #[41] },
  .binOp .gtr 3 (.tmp 39) (.const (.int .i64 0)) 3,
  .pick (.tmp 36) (.const (.bool true)) (.tmp 40),
  .fieldAddr 141 (.tmp 5) 4,
  .load 4 (.tmp 42),
  .move (.tmp 43),
  .fieldAddr 43 (.tmp 2) 5,
  .load 41 (.tmp 45),
  .call { callee := .builtin .len, args := #[.tmp 46], argTypes := #[41] },
  .binOp .gtr 3 (.tmp 47) (.const (.int .i64 0)) 3,
  .pick (.tmp 44) (.const (.bool true)) (.tmp 48),
  .build 141 #[(0, .tmp 25), (1, .tmp 29), (2, .tmp 33), (3, .tmp 41), (4, .tmp 49)],
  .alloc 141, .store 141 (.tmp 6) (.tmp 50)]
def shGs : List (Option (Nat × Bool)) := [none, none, none, some (2, false), some (2, false), some (2, false), none, none, none, none, none, none, none, none, none, none, none, none, some (17, false), some (17, false), some (17, false), some (17, false), none, none, none, none, some (25, false), some (25, false), some (25, false), some (25, false), none, none, none, none]
def shDeps : List (Nat × Nat) := [(1, 0), (2, 1), (3, 2), (4, 3), (4, 2), (5, 4), (5, 2), (6, 2), (6, 5), (8, 7), (9, 8), (10, 9), (12, 11), (13, 12), (14, 13), (16, 15), (17, 16), (18, 17), (19, 18), (19, 17), (20, 19), (20, 17), (21, 20), (21, 17), (22, 17), (22, 21), (24, 23), (25, 24), (26, 25), (27, 26), (27, 25), (28, 27), (28, 25), (29, 28), (29, 25), (30, 25), (30, 29), (31, 6), (31, 10), (31, 14), (31, 22), (31, 30)]
/-- What each operation leaves. -/
def shV (g ga : Nat) (rk : Nat) (rt : Int) (rao : Nat) (ran : Int) (raA : Option Addr) (ral rac rbo : Nat) (rbn : Int) (rbA : Option Addr) (rbl rbc : Nat) (ryA : Option Addr) (ryl ryc : Nat) (reA : Option Addr) (rel r9c : Nat) (qto qa qb qy qe na nb : Bool) : Nat → Value → Prop
  | 0, v => v = .pointer (some ⟨ga, 0, none⟩)
  | 1, v => v = .bool qto
  | 2, v => v = .bool qto
  | 3, v => qto = false → v = .pointer (some ⟨g, 1, none⟩)
  | 4, v => qto = false → v = .int .i64 rt
  | 5, v => qto = false → v = .bool (rt != 0)
  | 6, v => v = .bool (qto || rt != 0)
  | 7, v => v = .pointer (some ⟨g, 2, none⟩)
  | 8, v => v = .agg #[.int .u8 rao, .int .i64 ran, .slice raA ral rac]
  | 9, v => v = .bool na
  | 10, v => v = .bool (!na)
  | 11, v => v = .pointer (some ⟨g, 5, none⟩)
  | 12, v => v = .agg #[.int .u8 rbo, .int .i64 rbn, .slice rbA rbl rbc]
  | 13, v => v = .bool nb
  | 14, v => v = .bool (!nb)
  | 15, v => v = .pointer (some ⟨ga, 3, none⟩)
  | 16, v => v = .bool qy
  | 17, v => v = .bool qy
  | 18, v => qy = false → v = .pointer (some ⟨g, 8, none⟩)
  | 19, v => qy = false → v = .slice ryA ryl ryc
  | 20, v => qy = false → v = .int .i64 (ryl : Nat)
  | 21, v => qy = false → v = .bool (decide (0 < ryl))
  | 22, v => v = .bool (qy || decide (0 < ryl))
  | 23, v => v = .pointer (some ⟨ga, 4, none⟩)
  | 24, v => v = .bool qe
  | 25, v => v = .bool qe
  | 26, v => qe = false → v = .pointer (some ⟨g, 9, none⟩)
  | 27, v => qe = false → v = .slice reA rel r9c
  | 28, v => qe = false → v = .int .i64 (rel : Nat)
  | 29, v => qe = false → v = .bool (decide (0 < rel))
  | 30, v => v = .bool (qe || decide (0 < rel))
  | 31, v => v = .agg #[.bool (qto || rt != 0), .bool (!na), .bool (!nb), .bool (qy || decide (0 < ryl)), .bool (qe || decide (0 < rel))]
  | _, _ => True
set_option maxRecDepth 100000 in
set_option maxHeartbeats 4000000 in
theorem shaped_region {id : Nat} (ops : Array Oper) (hok : okGen shDs ops = true) (hops : ops.toList.map (·.op) = shOps) (hgs : ops.toList.map (·.guard) = shGs) (hdsts : ops.toList.map (·.dst) = shDs.map some ++ [none]) (hdeps : (shDeps.all fun q => depG ops q.1 q.2) = true)
    (W : World) (T : Array Value) (hT : T.size = 76) (g ga : Nat) (rk : Nat) (rt : Int) (rao : Nat) (ran : Int) (raA : Option Addr) (ral rac rbo : Nat) (rbn : Int) (rbA : Option Addr) (rbl rbc : Nat) (ryA : Option Addr) (ryl ryc : Nat) (reA : Option Addr) (rel r9c : Nat) (qto qa qb qy qe na nb : Bool)
    (t2 : T[2]? = some (.pointer (some ⟨g, 0, none⟩))) (t5 : T[5]? = some (.pointer (some ⟨ga, 0, none⟩)))
    (tW : Ten W ⟨g, 0, none⟩ ⟨rk, rt, rao, ran, raA, ral, rac, rbo, rbn, rbA, rbl, rbc, ryA, ryl, ryc, reA, rel, r9c⟩) (qW : Five W ga qto qa qb qy qe) (hg : g < W.heap.size) (hga : ga < W.heap.size)
    (ha : ∀ W', Below W.heap.size W W' → Calls Tryz.prog 91 #[.agg #[.int .u8 rao, .int .i64 ran, .slice raA ral rac]] W' fun e w' => e = .returned (.bool na) ∧ Below W'.heap.size W' w')
    (hb : ∀ W', Below W.heap.size W W' → Calls Tryz.prog 91 #[.agg #[.int .u8 rbo, .int .i64 rbn, .slice rbA rbl rbc]] W' fun e w' => e = .returned (.bool nb) ∧ Below W'.heap.size W' w')
    {Q : Exit → Act → World → Prop}
    (hQ : ∀ us w' g', us.length = 33 → us.getD 32 undef = .pointer (some ⟨g', 0, none⟩) → W.heap.size ≤ g' → g' < w'.heap.size → Below W.heap.size W w' → Five w' g' (qto || rt != 0) (!na) (!nb) (qy || decide (0 < ryl)) (qe || decide (0 < rel)) → Q .normal ⟨putAll T shDs us, []⟩ w') :
    (Code.region id ops true).wp Tryz.prog Q ⟨T, []⟩ W := by
  have hop : ∀ (i : Nat) (o : Oper), ops[i]? = some o → shOps[i]? = some o.op := fun i o ho => by
    rw [← hops, List.getElem?_map, Array.getElem?_toList, ho]
    rfl
  have hgd : ∀ (i : Nat) (o : Oper), ops[i]? = some o → shGs[i]? = some o.guard := fun i o ho => by
    rw [← hgs, List.getElem?_map, Array.getElem?_toList, ho]
    rfl
  have hds : ∀ (i d : Nat), (shDs.map some ++ [none])[i]? = some (some d) → (ops[i]?).bind (·.dst) = some d := fun i d h => by
    rw [← hdsts, List.getElem?_map, Array.getElem?_toList] at h
    cases hh : ops[i]? with
    | none => rw [hh] at h; cases h
    | some o => rw [hh] at h; simpa using h
  have hdep := List.all_eq_true.1 hdeps
  have hl : shDs.length = 33 := rfl
  have hnd : shDs.Nodup := by decide
  have hlt : ∀ d ∈ shDs, d < T.size := by rw [hT]; decide
  refine wp_region_gen (fun i v w => shV g ga rk rt rao ran raA ral rac rbo rbn rbA rbl rbc ryA ryl ryc reA rel r9c qto qa qb qy qe na nb i v ∧ (i = 32 → ∃ g', v = .pointer (some ⟨g', 0, none⟩) ∧ W.heap.size ≤ g' ∧ w.heap[g']? = some (.cells #[.bool false, .bool false, .bool false, .bool false, .bool false] 141 (0, 0)))) shDs W T hnd hlt (by kernel_rfl) hok ?_ ?_ ?_
  · rintro i v w w' h1 h2 ⟨h3, h4⟩
    refine ⟨h3, fun h => ?_⟩
    obtain ⟨g', e1, e2, e3⟩ := h4 h
    exact ⟨g', e1, e2, (h2.block g' (Array.getElem?_eq_some_iff.1 e3).1).trans e3⟩
  · intro i o ho hi a w hpre hdp hbl K hK
    have hoo := hop i o ho
    have hgg := hgd i o ho
    rw [hl] at hi
    have t2' := (hpre 2 (by decide)).trans t2
    have t5' := (hpre 5 (by decide)).trans t5
    have dep : ∀ j, depG ops i j = true → ∃ v, a.tmps[shDs.getD j 0]? = some v ∧ shV g ga rk rt rao ran raA ral rac rbo rbn rbA rbl rbc ryA ryl ryc reA rel r9c qto qa qb qy qe na nb j v := fun j hd => by
      obtain ⟨e, he, hbn, rfl⟩ := depG_spec ho hd
      obtain ⟨v, h1, h2⟩ := hdp e he hbn
      exact ⟨v, h1, h2.1⟩
    have ck : ∀ (j : Nat) (v : Value), W.cell? ⟨g, 0 + j, none⟩ = some v → w.cell? ⟨g, j, none⟩ = some v := fun j v h => by
      rw [Nat.zero_add] at h
      exact (hbl.cell (p := ⟨g, j, none⟩) hg).trans h
    have ckq : ∀ (q : Addr) (v : Value), q.block < W.heap.size → W.cell? q = some v → w.cell? q = some v := fun q v hq h => (hbl.cell hq).trans h
    clear hdp hops hgs hdsts hok
    obtain rfl | rfl | rfl | rfl | rfl | rfl | rfl | rfl | rfl | rfl | rfl | rfl | rfl | rfl | rfl | rfl | rfl | rfl | rfl | rfl | rfl | rfl | rfl | rfl | rfl | rfl | rfl | rfl | rfl | rfl | rfl | rfl | rfl : i = 0 ∨ i = 1 ∨ i = 2 ∨ i = 3 ∨ i = 4 ∨ i = 5 ∨ i = 6 ∨ i = 7 ∨ i = 8 ∨ i = 9 ∨ i = 10 ∨ i = 11 ∨ i = 12 ∨ i = 13 ∨ i = 14 ∨ i = 15 ∨ i = 16 ∨ i = 17 ∨ i = 18 ∨ i = 19 ∨ i = 20 ∨ i = 21 ∨ i = 22 ∨ i = 23 ∨ i = 24 ∨ i = 25 ∨ i = 26 ∨ i = 27 ∨ i = 28 ∨ i = 29 ∨ i = 30 ∨ i = 31 ∨ i = 32 := by omega
    · have e := (Option.some.inj hoo).symm
      have eg := (Option.some.inj hgg).symm
      rw [if_pos (wanted_none eg)]
      exact sl_fa 5 ga 0 e (ev_some t5') (.inl rfl) (hK _ _ (Below.refl _ _) ⟨rfl, fun h => by cases h⟩)
    · have e := (Option.some.inj hoo).symm
      have eg := (Option.some.inj hgg).symm
      obtain ⟨v0, x0, s0⟩ := dep 0 (hdep (1, 0) (by decide))
      have y0 : a.tmps[19]?.getD undef = .pointer (some ⟨ga, 0, none⟩) := ev_some (by rw [← (show v0 = _ from s0)]; exact x0)
      rw [if_pos (wanted_none eg)]
      exact sl_loadB 19 ga 0 qto e y0 (ckq _ _ hga qW.c0) (hK _ _ (Below.refl _ _) ⟨rfl, fun h => by cases h⟩)
    · have e := (Option.some.inj hoo).symm
      have eg := (Option.some.inj hgg).symm
      obtain ⟨v1, x1, s1⟩ := dep 1 (hdep (2, 1) (by decide))
      have y1 : a.tmps[20]?.getD undef = .bool qto := ev_some (by rw [← (show v1 = _ from s1)]; exact x1)
      rw [if_pos (wanted_none eg)]
      exact sl_moveB 20 qto e y1 (hK _ _ (Below.refl _ _) ⟨rfl, fun h => by cases h⟩)
    · have e := (Option.some.inj hoo).symm
      have eg := (Option.some.inj hgg).symm
      obtain ⟨v2, x2, s2⟩ := dep 2 (hdep (3, 2) (by decide))
      obtain hq | hq : qto = true ∨ qto = false := by cases qto <;> simp
      · have hwn : Region.wanted o (yielded ops a.tmps) = false := wanted_some eg (yields_some (b := true) (hds 2 21 rfl) (by rw [← hq, ← (show v2 = _ from s2)]; exact x2))
        rw [hwn, if_neg (by simp)]
        exact hK _ _ (Below.refl _ _) ⟨fun h => (by rw [hq] at h; cases h), fun h => (by cases h)⟩
      · have hwn : Region.wanted o (yielded ops a.tmps) = true := wanted_some eg (yields_some (b := false) (hds 2 21 rfl) (by rw [← hq, ← (show v2 = _ from s2)]; exact x2))
        rw [if_pos hwn]
        exact sl_fs 2 g 1 1 e (ev_some t2') (.inl ⟨rfl, rfl⟩) (hK _ _ (Below.refl _ _) ⟨fun _ => rfl, fun h => by cases h⟩)
    · have e := (Option.some.inj hoo).symm
      have eg := (Option.some.inj hgg).symm
      obtain ⟨v3, x3, s3⟩ := dep 3 (hdep (4, 3) (by decide))
      obtain ⟨v2, x2, s2⟩ := dep 2 (hdep (4, 2) (by decide))
      obtain hq | hq : qto = true ∨ qto = false := by cases qto <;> simp
      · have hwn : Region.wanted o (yielded ops a.tmps) = false := wanted_some eg (yields_some (b := true) (hds 2 21 rfl) (by rw [← hq, ← (show v2 = _ from s2)]; exact x2))
        rw [hwn, if_neg (by simp)]
        exact hK _ _ (Below.refl _ _) ⟨fun h => (by rw [hq] at h; cases h), fun h => (by cases h)⟩
      · have hwn : Region.wanted o (yielded ops a.tmps) = true := wanted_some eg (yields_some (b := false) (hds 2 21 rfl) (by rw [← hq, ← (show v2 = _ from s2)]; exact x2))
        have y3 : a.tmps[22]?.getD undef = .pointer (some ⟨g, 1, none⟩) := ev_some (by rw [← (show v3 = _ from s3 hq)]; exact x3)
        rw [if_pos hwn]
        exact sl_loadI 22 g 1 rt e y3 (ck 1 _ tW.c1) (hK _ _ (Below.refl _ _) ⟨fun _ => rfl, fun h => by cases h⟩)
    · have e := (Option.some.inj hoo).symm
      have eg := (Option.some.inj hgg).symm
      obtain ⟨v4, x4, s4⟩ := dep 4 (hdep (5, 4) (by decide))
      obtain ⟨v2, x2, s2⟩ := dep 2 (hdep (5, 2) (by decide))
      obtain hq | hq : qto = true ∨ qto = false := by cases qto <;> simp
      · have hwn : Region.wanted o (yielded ops a.tmps) = false := wanted_some eg (yields_some (b := true) (hds 2 21 rfl) (by rw [← hq, ← (show v2 = _ from s2)]; exact x2))
        rw [hwn, if_neg (by simp)]
        exact hK _ _ (Below.refl _ _) ⟨fun h => (by rw [hq] at h; cases h), fun h => (by cases h)⟩
      · have hwn : Region.wanted o (yielded ops a.tmps) = true := wanted_some eg (yields_some (b := false) (hds 2 21 rfl) (by rw [← hq, ← (show v2 = _ from s2)]; exact x2))
        have y4 : a.tmps[23]?.getD undef = .int .i64 rt := ev_some (by rw [← (show v4 = _ from s4 hq)]; exact x4)
        rw [if_pos hwn]
        exact sl_neq 23 rt e y4 (hK _ _ (Below.refl _ _) ⟨fun _ => rfl, fun h => by cases h⟩)
    · have e := (Option.some.inj hoo).symm
      have eg := (Option.some.inj hgg).symm
      obtain ⟨v2, x2, s2⟩ := dep 2 (hdep (6, 2) (by decide))
      obtain ⟨v5, x5, s5⟩ := dep 5 (hdep (6, 5) (by decide))
      rw [if_pos (wanted_none eg)]
      obtain hq | hq : qto = true ∨ qto = false := by cases qto <;> simp
      · have y2 : a.tmps[21]?.getD undef = .bool true := ev_some (by rw [← hq, ← (show v2 = _ from s2)]; exact x2)
        refine sl_pick1 21 24 e y2 (hK _ _ (Below.refl _ _) ⟨?_, fun h => by cases h⟩)
        show Value.bool true = _
        rw [hq]; rfl
      · have y2 : a.tmps[21]?.getD undef = .bool false := ev_some (by rw [← hq, ← (show v2 = _ from s2)]; exact x2)
        have y5 : a.tmps[24]?.getD undef = .bool (rt != 0) := ev_some (by rw [← (show v5 = _ from s5 hq)]; exact x5)
        refine sl_pick0 21 24 _ e y2 y5 (hK _ _ (Below.refl _ _) ⟨?_, fun h => by cases h⟩)
        show Value.bool _ = _
        rw [hq]; rfl
    · have e := (Option.some.inj hoo).symm
      have eg := (Option.some.inj hgg).symm
      rw [if_pos (wanted_none eg)]
      exact sl_fs 2 g 2 2 e (ev_some t2') (.inr (.inl ⟨rfl, rfl⟩)) (hK _ _ (Below.refl _ _) ⟨rfl, fun h => by cases h⟩)
    · have e := (Option.some.inj hoo).symm
      have eg := (Option.some.inj hgg).symm
      obtain ⟨v7, x7, s7⟩ := dep 7 (hdep (8, 7) (by decide))
      have y7 : a.tmps[26]?.getD undef = .pointer (some ⟨g, 2, none⟩) := ev_some (by rw [← (show v7 = _ from s7)]; exact x7)
      rw [if_pos (wanted_none eg)]
      exact sl_loadE 26 g 2 e y7 (ck 2 _ tW.c2) (ck 3 _ tW.c3) (ck 4 _ tW.c4) (hK _ _ (Below.refl _ _) ⟨rfl, fun h => by cases h⟩)
    · have e := (Option.some.inj hoo).symm
      have eg := (Option.some.inj hgg).symm
      obtain ⟨v8, x8, s8⟩ := dep 8 (hdep (9, 8) (by decide))
      have y8 : a.tmps[27]?.getD undef = .agg #[.int .u8 rao, .int .i64 ran, .slice raA ral rac] := ev_some (by rw [← (show v8 = _ from s8)]; exact x8)
      rw [if_pos (wanted_none eg)]
      exact sl_none 27 na e y8 (ha w hbl) fun w' hb' => hK _ _ hb' ⟨rfl, fun h => by cases h⟩
    · have e := (Option.some.inj hoo).symm
      have eg := (Option.some.inj hgg).symm
      obtain ⟨v9, x9, s9⟩ := dep 9 (hdep (10, 9) (by decide))
      have y9 : a.tmps[28]?.getD undef = .bool na := ev_some (by rw [← (show v9 = _ from s9)]; exact x9)
      rw [if_pos (wanted_none eg)]
      exact sl_not 28 na e y9 (hK _ _ (Below.refl _ _) ⟨rfl, fun h => by cases h⟩)
    · have e := (Option.some.inj hoo).symm
      have eg := (Option.some.inj hgg).symm
      rw [if_pos (wanted_none eg)]
      exact sl_fs 2 g 3 5 e (ev_some t2') (.inr (.inr (.inl ⟨rfl, rfl⟩))) (hK _ _ (Below.refl _ _) ⟨rfl, fun h => by cases h⟩)
    · have e := (Option.some.inj hoo).symm
      have eg := (Option.some.inj hgg).symm
      obtain ⟨v11, x11, s11⟩ := dep 11 (hdep (12, 11) (by decide))
      have y11 : a.tmps[30]?.getD undef = .pointer (some ⟨g, 5, none⟩) := ev_some (by rw [← (show v11 = _ from s11)]; exact x11)
      rw [if_pos (wanted_none eg)]
      exact sl_loadE 30 g 5 e y11 (ck 5 _ tW.c5) (ck 6 _ tW.c6) (ck 7 _ tW.c7) (hK _ _ (Below.refl _ _) ⟨rfl, fun h => by cases h⟩)
    · have e := (Option.some.inj hoo).symm
      have eg := (Option.some.inj hgg).symm
      obtain ⟨v12, x12, s12⟩ := dep 12 (hdep (13, 12) (by decide))
      have y12 : a.tmps[31]?.getD undef = .agg #[.int .u8 rbo, .int .i64 rbn, .slice rbA rbl rbc] := ev_some (by rw [← (show v12 = _ from s12)]; exact x12)
      rw [if_pos (wanted_none eg)]
      exact sl_none 31 nb e y12 (hb w hbl) fun w' hb' => hK _ _ hb' ⟨rfl, fun h => by cases h⟩
    · have e := (Option.some.inj hoo).symm
      have eg := (Option.some.inj hgg).symm
      obtain ⟨v13, x13, s13⟩ := dep 13 (hdep (14, 13) (by decide))
      have y13 : a.tmps[32]?.getD undef = .bool nb := ev_some (by rw [← (show v13 = _ from s13)]; exact x13)
      rw [if_pos (wanted_none eg)]
      exact sl_not 32 nb e y13 (hK _ _ (Below.refl _ _) ⟨rfl, fun h => by cases h⟩)
    · have e := (Option.some.inj hoo).symm
      have eg := (Option.some.inj hgg).symm
      rw [if_pos (wanted_none eg)]
      exact sl_fa 5 ga 3 e (ev_some t5') (.inr (.inl rfl)) (hK _ _ (Below.refl _ _) ⟨rfl, fun h => by cases h⟩)
    · have e := (Option.some.inj hoo).symm
      have eg := (Option.some.inj hgg).symm
      obtain ⟨v15, x15, s15⟩ := dep 15 (hdep (16, 15) (by decide))
      have y15 : a.tmps[34]?.getD undef = .pointer (some ⟨ga, 3, none⟩) := ev_some (by rw [← (show v15 = _ from s15)]; exact x15)
      rw [if_pos (wanted_none eg)]
      exact sl_loadB 34 ga 3 qy e y15 (ckq _ _ hga qW.c3) (hK _ _ (Below.refl _ _) ⟨rfl, fun h => by cases h⟩)
    · have e := (Option.some.inj hoo).symm
      have eg := (Option.some.inj hgg).symm
      obtain ⟨v16, x16, s16⟩ := dep 16 (hdep (17, 16) (by decide))
      have y16 : a.tmps[35]?.getD undef = .bool qy := ev_some (by rw [← (show v16 = _ from s16)]; exact x16)
      rw [if_pos (wanted_none eg)]
      exact sl_moveB 35 qy e y16 (hK _ _ (Below.refl _ _) ⟨rfl, fun h => by cases h⟩)
    · have e := (Option.some.inj hoo).symm
      have eg := (Option.some.inj hgg).symm
      obtain ⟨v17, x17, s17⟩ := dep 17 (hdep (18, 17) (by decide))
      obtain hq | hq : qy = true ∨ qy = false := by cases qy <;> simp
      · have hwn : Region.wanted o (yielded ops a.tmps) = false := wanted_some eg (yields_some (b := true) (hds 17 36 rfl) (by rw [← hq, ← (show v17 = _ from s17)]; exact x17))
        rw [hwn, if_neg (by simp)]
        exact hK _ _ (Below.refl _ _) ⟨fun h => (by rw [hq] at h; cases h), fun h => (by cases h)⟩
      · have hwn : Region.wanted o (yielded ops a.tmps) = true := wanted_some eg (yields_some (b := false) (hds 17 36 rfl) (by rw [← hq, ← (show v17 = _ from s17)]; exact x17))
        rw [if_pos hwn]
        exact sl_fs 2 g 4 8 e (ev_some t2') (.inr (.inr (.inr (.inl ⟨rfl, rfl⟩)))) (hK _ _ (Below.refl _ _) ⟨fun _ => rfl, fun h => by cases h⟩)
    · have e := (Option.some.inj hoo).symm
      have eg := (Option.some.inj hgg).symm
      obtain ⟨v18, x18, s18⟩ := dep 18 (hdep (19, 18) (by decide))
      obtain ⟨v17, x17, s17⟩ := dep 17 (hdep (19, 17) (by decide))
      obtain hq | hq : qy = true ∨ qy = false := by cases qy <;> simp
      · have hwn : Region.wanted o (yielded ops a.tmps) = false := wanted_some eg (yields_some (b := true) (hds 17 36 rfl) (by rw [← hq, ← (show v17 = _ from s17)]; exact x17))
        rw [hwn, if_neg (by simp)]
        exact hK _ _ (Below.refl _ _) ⟨fun h => (by rw [hq] at h; cases h), fun h => (by cases h)⟩
      · have hwn : Region.wanted o (yielded ops a.tmps) = true := wanted_some eg (yields_some (b := false) (hds 17 36 rfl) (by rw [← hq, ← (show v17 = _ from s17)]; exact x17))
        have y18 : a.tmps[37]?.getD undef = .pointer (some ⟨g, 8, none⟩) := ev_some (by rw [← (show v18 = _ from s18 hq)]; exact x18)
        rw [if_pos hwn]
        exact sl_loadS 37 g 8 ryA ryl ryc e y18 (ck 8 _ tW.c8) (hK _ _ (Below.refl _ _) ⟨fun _ => rfl, fun h => by cases h⟩)
    · have e := (Option.some.inj hoo).symm
      have eg := (Option.some.inj hgg).symm
      obtain ⟨v19, x19, s19⟩ := dep 19 (hdep (20, 19) (by decide))
      obtain ⟨v17, x17, s17⟩ := dep 17 (hdep (20, 17) (by decide))
      obtain hq | hq : qy = true ∨ qy = false := by cases qy <;> simp
      · have hwn : Region.wanted o (yielded ops a.tmps) = false := wanted_some eg (yields_some (b := true) (hds 17 36 rfl) (by rw [← hq, ← (show v17 = _ from s17)]; exact x17))
        rw [hwn, if_neg (by simp)]
        exact hK _ _ (Below.refl _ _) ⟨fun h => (by rw [hq] at h; cases h), fun h => (by cases h)⟩
      · have hwn : Region.wanted o (yielded ops a.tmps) = true := wanted_some eg (yields_some (b := false) (hds 17 36 rfl) (by rw [← hq, ← (show v17 = _ from s17)]; exact x17))
        have y19 : a.tmps[38]?.getD undef = .slice ryA ryl ryc := ev_some (by rw [← (show v19 = _ from s19 hq)]; exact x19)
        rw [if_pos hwn]
        exact sl_len 38 ryA ryl ryc e y19 (hK _ _ (Below.refl _ _) ⟨fun _ => rfl, fun h => by cases h⟩)
    · have e := (Option.some.inj hoo).symm
      have eg := (Option.some.inj hgg).symm
      obtain ⟨v20, x20, s20⟩ := dep 20 (hdep (21, 20) (by decide))
      obtain ⟨v17, x17, s17⟩ := dep 17 (hdep (21, 17) (by decide))
      obtain hq | hq : qy = true ∨ qy = false := by cases qy <;> simp
      · have hwn : Region.wanted o (yielded ops a.tmps) = false := wanted_some eg (yields_some (b := true) (hds 17 36 rfl) (by rw [← hq, ← (show v17 = _ from s17)]; exact x17))
        rw [hwn, if_neg (by simp)]
        exact hK _ _ (Below.refl _ _) ⟨fun h => (by rw [hq] at h; cases h), fun h => (by cases h)⟩
      · have hwn : Region.wanted o (yielded ops a.tmps) = true := wanted_some eg (yields_some (b := false) (hds 17 36 rfl) (by rw [← hq, ← (show v17 = _ from s17)]; exact x17))
        have y20 : a.tmps[39]?.getD undef = .int .i64 (ryl : Nat) := ev_some (by rw [← (show v20 = _ from s20 hq)]; exact x20)
        rw [if_pos hwn]
        exact sl_gtr 39 ryl e y20 (hK _ _ (Below.refl _ _) ⟨fun _ => rfl, fun h => by cases h⟩)
    · have e := (Option.some.inj hoo).symm
      have eg := (Option.some.inj hgg).symm
      obtain ⟨v17, x17, s17⟩ := dep 17 (hdep (22, 17) (by decide))
      obtain ⟨v21, x21, s21⟩ := dep 21 (hdep (22, 21) (by decide))
      rw [if_pos (wanted_none eg)]
      obtain hq | hq : qy = true ∨ qy = false := by cases qy <;> simp
      · have y17 : a.tmps[36]?.getD undef = .bool true := ev_some (by rw [← hq, ← (show v17 = _ from s17)]; exact x17)
        refine sl_pick1 36 40 e y17 (hK _ _ (Below.refl _ _) ⟨?_, fun h => by cases h⟩)
        show Value.bool true = _
        rw [hq]; rfl
      · have y17 : a.tmps[36]?.getD undef = .bool false := ev_some (by rw [← hq, ← (show v17 = _ from s17)]; exact x17)
        have y21 : a.tmps[40]?.getD undef = .bool (decide (0 < ryl)) := ev_some (by rw [← (show v21 = _ from s21 hq)]; exact x21)
        refine sl_pick0 36 40 _ e y17 y21 (hK _ _ (Below.refl _ _) ⟨?_, fun h => by cases h⟩)
        show Value.bool _ = _
        rw [hq]; rfl
    · have e := (Option.some.inj hoo).symm
      have eg := (Option.some.inj hgg).symm
      rw [if_pos (wanted_none eg)]
      exact sl_fa 5 ga 4 e (ev_some t5') (.inr (.inr rfl)) (hK _ _ (Below.refl _ _) ⟨rfl, fun h => by cases h⟩)
    · have e := (Option.some.inj hoo).symm
      have eg := (Option.some.inj hgg).symm
      obtain ⟨v23, x23, s23⟩ := dep 23 (hdep (24, 23) (by decide))
      have y23 : a.tmps[42]?.getD undef = .pointer (some ⟨ga, 4, none⟩) := ev_some (by rw [← (show v23 = _ from s23)]; exact x23)
      rw [if_pos (wanted_none eg)]
      exact sl_loadB 42 ga 4 qe e y23 (ckq _ _ hga qW.c4) (hK _ _ (Below.refl _ _) ⟨rfl, fun h => by cases h⟩)
    · have e := (Option.some.inj hoo).symm
      have eg := (Option.some.inj hgg).symm
      obtain ⟨v24, x24, s24⟩ := dep 24 (hdep (25, 24) (by decide))
      have y24 : a.tmps[43]?.getD undef = .bool qe := ev_some (by rw [← (show v24 = _ from s24)]; exact x24)
      rw [if_pos (wanted_none eg)]
      exact sl_moveB 43 qe e y24 (hK _ _ (Below.refl _ _) ⟨rfl, fun h => by cases h⟩)
    · have e := (Option.some.inj hoo).symm
      have eg := (Option.some.inj hgg).symm
      obtain ⟨v25, x25, s25⟩ := dep 25 (hdep (26, 25) (by decide))
      obtain hq | hq : qe = true ∨ qe = false := by cases qe <;> simp
      · have hwn : Region.wanted o (yielded ops a.tmps) = false := wanted_some eg (yields_some (b := true) (hds 25 44 rfl) (by rw [← hq, ← (show v25 = _ from s25)]; exact x25))
        rw [hwn, if_neg (by simp)]
        exact hK _ _ (Below.refl _ _) ⟨fun h => (by rw [hq] at h; cases h), fun h => (by cases h)⟩
      · have hwn : Region.wanted o (yielded ops a.tmps) = true := wanted_some eg (yields_some (b := false) (hds 25 44 rfl) (by rw [← hq, ← (show v25 = _ from s25)]; exact x25))
        rw [if_pos hwn]
        exact sl_fs 2 g 5 9 e (ev_some t2') (.inr (.inr (.inr (.inr ⟨rfl, rfl⟩)))) (hK _ _ (Below.refl _ _) ⟨fun _ => rfl, fun h => by cases h⟩)
    · have e := (Option.some.inj hoo).symm
      have eg := (Option.some.inj hgg).symm
      obtain ⟨v26, x26, s26⟩ := dep 26 (hdep (27, 26) (by decide))
      obtain ⟨v25, x25, s25⟩ := dep 25 (hdep (27, 25) (by decide))
      obtain hq | hq : qe = true ∨ qe = false := by cases qe <;> simp
      · have hwn : Region.wanted o (yielded ops a.tmps) = false := wanted_some eg (yields_some (b := true) (hds 25 44 rfl) (by rw [← hq, ← (show v25 = _ from s25)]; exact x25))
        rw [hwn, if_neg (by simp)]
        exact hK _ _ (Below.refl _ _) ⟨fun h => (by rw [hq] at h; cases h), fun h => (by cases h)⟩
      · have hwn : Region.wanted o (yielded ops a.tmps) = true := wanted_some eg (yields_some (b := false) (hds 25 44 rfl) (by rw [← hq, ← (show v25 = _ from s25)]; exact x25))
        have y26 : a.tmps[45]?.getD undef = .pointer (some ⟨g, 9, none⟩) := ev_some (by rw [← (show v26 = _ from s26 hq)]; exact x26)
        rw [if_pos hwn]
        exact sl_loadS 45 g 9 reA rel r9c e y26 (ck 9 _ tW.c9) (hK _ _ (Below.refl _ _) ⟨fun _ => rfl, fun h => by cases h⟩)
    · have e := (Option.some.inj hoo).symm
      have eg := (Option.some.inj hgg).symm
      obtain ⟨v27, x27, s27⟩ := dep 27 (hdep (28, 27) (by decide))
      obtain ⟨v25, x25, s25⟩ := dep 25 (hdep (28, 25) (by decide))
      obtain hq | hq : qe = true ∨ qe = false := by cases qe <;> simp
      · have hwn : Region.wanted o (yielded ops a.tmps) = false := wanted_some eg (yields_some (b := true) (hds 25 44 rfl) (by rw [← hq, ← (show v25 = _ from s25)]; exact x25))
        rw [hwn, if_neg (by simp)]
        exact hK _ _ (Below.refl _ _) ⟨fun h => (by rw [hq] at h; cases h), fun h => (by cases h)⟩
      · have hwn : Region.wanted o (yielded ops a.tmps) = true := wanted_some eg (yields_some (b := false) (hds 25 44 rfl) (by rw [← hq, ← (show v25 = _ from s25)]; exact x25))
        have y27 : a.tmps[46]?.getD undef = .slice reA rel r9c := ev_some (by rw [← (show v27 = _ from s27 hq)]; exact x27)
        rw [if_pos hwn]
        exact sl_len 46 reA rel r9c e y27 (hK _ _ (Below.refl _ _) ⟨fun _ => rfl, fun h => by cases h⟩)
    · have e := (Option.some.inj hoo).symm
      have eg := (Option.some.inj hgg).symm
      obtain ⟨v28, x28, s28⟩ := dep 28 (hdep (29, 28) (by decide))
      obtain ⟨v25, x25, s25⟩ := dep 25 (hdep (29, 25) (by decide))
      obtain hq | hq : qe = true ∨ qe = false := by cases qe <;> simp
      · have hwn : Region.wanted o (yielded ops a.tmps) = false := wanted_some eg (yields_some (b := true) (hds 25 44 rfl) (by rw [← hq, ← (show v25 = _ from s25)]; exact x25))
        rw [hwn, if_neg (by simp)]
        exact hK _ _ (Below.refl _ _) ⟨fun h => (by rw [hq] at h; cases h), fun h => (by cases h)⟩
      · have hwn : Region.wanted o (yielded ops a.tmps) = true := wanted_some eg (yields_some (b := false) (hds 25 44 rfl) (by rw [← hq, ← (show v25 = _ from s25)]; exact x25))
        have y28 : a.tmps[47]?.getD undef = .int .i64 (rel : Nat) := ev_some (by rw [← (show v28 = _ from s28 hq)]; exact x28)
        rw [if_pos hwn]
        exact sl_gtr 47 rel e y28 (hK _ _ (Below.refl _ _) ⟨fun _ => rfl, fun h => by cases h⟩)
    · have e := (Option.some.inj hoo).symm
      have eg := (Option.some.inj hgg).symm
      obtain ⟨v25, x25, s25⟩ := dep 25 (hdep (30, 25) (by decide))
      obtain ⟨v29, x29, s29⟩ := dep 29 (hdep (30, 29) (by decide))
      rw [if_pos (wanted_none eg)]
      obtain hq | hq : qe = true ∨ qe = false := by cases qe <;> simp
      · have y25 : a.tmps[44]?.getD undef = .bool true := ev_some (by rw [← hq, ← (show v25 = _ from s25)]; exact x25)
        refine sl_pick1 44 48 e y25 (hK _ _ (Below.refl _ _) ⟨?_, fun h => by cases h⟩)
        show Value.bool true = _
        rw [hq]; rfl
      · have y25 : a.tmps[44]?.getD undef = .bool false := ev_some (by rw [← hq, ← (show v25 = _ from s25)]; exact x25)
        have y29 : a.tmps[48]?.getD undef = .bool (decide (0 < rel)) := ev_some (by rw [← (show v29 = _ from s29 hq)]; exact x29)
        refine sl_pick0 44 48 _ e y25 y29 (hK _ _ (Below.refl _ _) ⟨?_, fun h => by cases h⟩)
        show Value.bool _ = _
        rw [hq]; rfl
    · have e := (Option.some.inj hoo).symm
      have eg := (Option.some.inj hgg).symm
      obtain ⟨v6, x6, s6⟩ := dep 6 (hdep (31, 6) (by decide))
      obtain ⟨v10, x10, s10⟩ := dep 10 (hdep (31, 10) (by decide))
      obtain ⟨v14, x14, s14⟩ := dep 14 (hdep (31, 14) (by decide))
      obtain ⟨v22, x22, s22⟩ := dep 22 (hdep (31, 22) (by decide))
      obtain ⟨v30, x30, s30⟩ := dep 30 (hdep (31, 30) (by decide))
      have y6 : a.tmps[25]?.getD undef = .bool (qto || rt != 0) := ev_some (by rw [← (show v6 = _ from s6)]; exact x6)
      have y10 : a.tmps[29]?.getD undef = .bool (!na) := ev_some (by rw [← (show v10 = _ from s10)]; exact x10)
      have y14 : a.tmps[33]?.getD undef = .bool (!nb) := ev_some (by rw [← (show v14 = _ from s14)]; exact x14)
      have y22 : a.tmps[41]?.getD undef = .bool (qy || decide (0 < ryl)) := ev_some (by rw [← (show v22 = _ from s22)]; exact x22)
      have y30 : a.tmps[49]?.getD undef = .bool (qe || decide (0 < rel)) := ev_some (by rw [← (show v30 = _ from s30)]; exact x30)
      rw [if_pos (wanted_none eg)]
      exact sl_build (qto || rt != 0) (!na) (!nb) (qy || decide (0 < ryl)) (qe || decide (0 < rel)) e y6 y10 y14 y22 y30 (hK _ _ (Below.refl _ _) ⟨rfl, fun h => by cases h⟩)
    · have e := (Option.some.inj hoo).symm
      have eg := (Option.some.inj hgg).symm
      rw [if_pos (wanted_none eg)]
      exact sl_alloc e (hK _ _ ((Below.refl _ _).alloc (Nat.le_refl _) _) ⟨trivial, fun _ => ⟨_, rfl, hbl.size, heap_alloc_new w _⟩⟩)
  · intro o us w ho hu hbl hS
    have e := (Option.some.inj (hop 33 o ho)).symm
    rw [hl] at hu hS
    obtain ⟨_, h32⟩ := hS 32 (by omega)
    obtain ⟨g', e1, e2, e3⟩ := h32 rfl
    have h31 : us.getD 31 undef = .agg #[.bool (qto || rt != 0), .bool (!na), .bool (!nb), .bool (qy || decide (0 < ryl)), .bool (qe || decide (0 < rel))] := (hS 31 (by omega)).1
    have x6 := putAll_at T shDs us 32 (by omega) (by omega) hnd (hlt _ (List.getElem_mem _))
    have x50 := putAll_at T shDs us 31 (by omega) (by omega) hnd (hlt _ (List.getElem_mem _))
    have y6 : (putAll T shDs us)[6]?.getD undef = .pointer (some ⟨g', 0, none⟩) := by
      have : (putAll T shDs us)[6]? = us[32]? := x6
      rw [this, ← List.getD_eq_getElem?_getD]
      exact e1
    have y50 : (putAll T shDs us)[50]?.getD undef = .agg #[.bool (qto || rt != 0), .bool (!na), .bool (!nb), .bool (qy || decide (0 < ryl)), .bool (qe || decide (0 < rel))] := by
      have : (putAll T shDs us)[50]? = us[31]? := x50
      rw [this, ← List.getD_eq_getElem?_getD]
      exact h31
    have hlw := (Array.getElem?_eq_some_iff.1 e3).1
    have h9 : (ops.toList.map (·.dst))[shDs.length]? = some o.dst := by rw [List.getElem?_map, Array.getElem?_toList, ho]; rfl
    rw [hdsts] at h9
    have hdn : o.dst = none := (Option.some.inj h9).symm
    have r0 := heap_set_same w g' 0 (.bool (qto || rt != 0)) _ _ e3
    have r1 := heap_set_same _ g' 1 (.bool (!na)) _ _ r0
    have r2 := heap_set_same _ g' 2 (.bool (!nb)) _ _ r1
    have r3 := heap_set_same _ g' 3 (.bool (qy || decide (0 < ryl))) _ _ r2
    have r4 := heap_set_same _ g' 4 (.bool (qe || decide (0 < rel))) _ _ r3
    refine sl_store g' _ _ _ _ _ e y6 y50 e3 ?_
    rw [hdn]
    refine hQ us _ g' hu e1 e2 ?_ ?_ ?_
    · simpa using hlw
    · exact ((((hbl.setCell (p := ⟨g', 0, none⟩) e2 _).setCell (p := ⟨g', 1, none⟩) e2 _).setCell (p := ⟨g', 2, none⟩) e2 _).setCell (p := ⟨g', 3, none⟩) e2 _).setCell (p := ⟨g', 4, none⟩) e2 _
    · exact ⟨cell_of_row5 r4 0, cell_of_row5 r4 1, cell_of_row5 r4 2, cell_of_row5 r4 3, cell_of_row5 r4 4⟩
end Go.Proofs.YthdcdffdpdoeoaaGreatDoor
/-
  CONTRACT OF PACKAGE code's shaped: whether a statement of the transaction n is shaped; the memory that was there stays as it was. Conditions: the table of what each Kind asks lies as its initialiser lays it; as they stand.
-/
namespace Go.Proofs.YthdcdffdpdoeoaaGreatDoor
set_option maxRecDepth 100000
open Go.RowKit
set_option linter.unusedVariables false
theorem uncons {n : Nat} (us : List Value) (h : us.length = n + 1) : ∃ u r, us = u :: r ∧ r.length = n := by
  cases us with
  | nil => cases h
  | cons u r => exact ⟨u, r, rfl, by simpa using h⟩
theorem len33 (us : List Value) (h : us.length = 33) : ∃ u0 u1 u2 u3 u4 u5 u6 u7 u8 u9 u10 u11 u12 u13 u14 u15 u16 u17 u18 u19 u20 u21 u22 u23 u24 u25 u26 u27 u28 u29 u30 u31 u32, us = u0 :: u1 :: u2 :: u3 :: u4 :: u5 :: u6 :: u7 :: u8 :: u9 :: u10 :: u11 :: u12 :: u13 :: u14 :: u15 :: u16 :: u17 :: u18 :: u19 :: u20 :: u21 :: u22 :: u23 :: u24 :: u25 :: u26 :: u27 :: u28 :: u29 :: u30 :: u31 :: u32 :: [] := by
  obtain ⟨u0, r0, rfl, h0⟩ := uncons us h
  obtain ⟨u1, r1, rfl, h1⟩ := uncons r0 h0
  obtain ⟨u2, r2, rfl, h2⟩ := uncons r1 h1
  obtain ⟨u3, r3, rfl, h3⟩ := uncons r2 h2
  obtain ⟨u4, r4, rfl, h4⟩ := uncons r3 h3
  obtain ⟨u5, r5, rfl, h5⟩ := uncons r4 h4
  obtain ⟨u6, r6, rfl, h6⟩ := uncons r5 h5
  obtain ⟨u7, r7, rfl, h7⟩ := uncons r6 h6
  obtain ⟨u8, r8, rfl, h8⟩ := uncons r7 h7
  obtain ⟨u9, r9, rfl, h9⟩ := uncons r8 h8
  obtain ⟨u10, r10, rfl, h10⟩ := uncons r9 h9
  obtain ⟨u11, r11, rfl, h11⟩ := uncons r10 h10
  obtain ⟨u12, r12, rfl, h12⟩ := uncons r11 h11
  obtain ⟨u13, r13, rfl, h13⟩ := uncons r12 h12
  obtain ⟨u14, r14, rfl, h14⟩ := uncons r13 h13
  obtain ⟨u15, r15, rfl, h15⟩ := uncons r14 h14
  obtain ⟨u16, r16, rfl, h16⟩ := uncons r15 h15
  obtain ⟨u17, r17, rfl, h17⟩ := uncons r16 h16
  obtain ⟨u18, r18, rfl, h18⟩ := uncons r17 h17
  obtain ⟨u19, r19, rfl, h19⟩ := uncons r18 h18
  obtain ⟨u20, r20, rfl, h20⟩ := uncons r19 h19
  obtain ⟨u21, r21, rfl, h21⟩ := uncons r20 h20
  obtain ⟨u22, r22, rfl, h22⟩ := uncons r21 h21
  obtain ⟨u23, r23, rfl, h23⟩ := uncons r22 h22
  obtain ⟨u24, r24, rfl, h24⟩ := uncons r23 h23
  obtain ⟨u25, r25, rfl, h25⟩ := uncons r24 h24
  obtain ⟨u26, r26, rfl, h26⟩ := uncons r25 h25
  obtain ⟨u27, r27, rfl, h27⟩ := uncons r26 h26
  obtain ⟨u28, r28, rfl, h28⟩ := uncons r27 h27
  obtain ⟨u29, r29, rfl, h29⟩ := uncons r28 h28
  obtain ⟨u30, r30, rfl, h30⟩ := uncons r29 h29
  obtain ⟨u31, r31, rfl, h31⟩ := uncons r30 h30
  obtain ⟨u32, r32, rfl, h32⟩ := uncons r31 h31
  obtain rfl := List.eq_nil_of_length_eq_zero h32
  exact ⟨_, _, _, _, _, _, _, _, _, _, _, _, _, _, _, _, _, _, _, _, _, _, _, _, _, _, _, _, _, _, _, _, _, rfl⟩
set_option maxRecDepth 100000 in
theorem shaped_in (d : Nat) (rk : Nat) (rt : Int) (rao : Nat) (ran : Int) (raA : Option Addr) (ral rac rbo : Nat) (rbn : Int) (rbA : Option Addr) (rbl rbc : Nat) (ryA : Option Addr) (ryl ryc : Nat) (reA : Option Addr) (rel r9c : Nat) (a b : Ex) (n : Int) (lo hi : Nat) (w : World) (h1 : 1 ≤ rk) (h8 : rk ≤ 8)
    (n0 : -9223372036854775808 ≤ n) (n1 : n < 9223372036854775808) (t0 : -9223372036854775808 ≤ rt) (t1 : rt < 9223372036854775808) (ll : ryl ≤ 9223372036854775807) (le : rel ≤ 9223372036854775807) (hkd : Kd w) (hhi : hi ≤ w.heap.size)
    (ha : At w lo hi d (.agg #[.int .u8 rao, .int .i64 ran, .slice raA ral rac]) a) (hb : At w lo hi d (.agg #[.int .u8 rbo, .int .i64 rbn, .slice rbA rbl rbc]) b)
    (qto qa qb qy qe : Bool) (hq : ask rk = ⟨qto, qa, qb, qy, qe⟩) :
    Calls Tryz.prog 77 #[.agg #[.int .u8 rk, .int .i64 rt, .int .u8 rao, .int .i64 ran, .slice raA ral rac, .int .u8 rbo, .int .i64 rbn, .slice rbA rbl rbc, .slice ryA ryl ryc, .slice reA rel r9c], .int .i64 n] w fun e w' =>
      e = .returned (.bool ((((qto || rt != 0) == qto) && (((!noneE a) == qa) && (((!noneE b) == qb) && (((qy || decide (0 < ryl)) == qy) && ((qe || decide (0 < rel)) == qe))))) && (decide (0 ≤ rt) && (decide (rt < 8) && (mayE d a n && mayE d b n))))) ∧ Below w.heap.size w w' := by
  have tn := Ten.new w ⟨rk, rt, rao, ran, raA, ral, rac, rbo, rbn, rbA, rbl, rbc, ryA, ryl, ryc, reA, rel, r9c⟩
  have hB0 : Below w.heap.size w (w.alloc (.cells #[.int .u8 rk, .int .i64 rt, .int .u8 rao, .int .i64 ran, .slice raA ral rac, .int .u8 rbo, .int .i64 rbn, .slice rbA rbl rbc, .slice ryA ryl ryc, .slice reA rel r9c] 43)) := (Below.refl _ _).alloc (Nat.le_refl _) _
  have hk0 := hkd.below hB0 (Nat.le_refl _) rk (by omega)
  rw [hq] at hk0
  obtain ⟨k0, k1, k2, k3, k4⟩ := hk0
  dsimp only at k0 k1 k2 k3 k4 tn
  have c0 := tn.c0
  have c1 := tn.c1
  have c2 := tn.c2
  dsimp only at c0 c1 c2
  clear hq
  have z0 : w.heap.size < (w.alloc (.cells #[.int .u8 rk, .int .i64 rt, .int .u8 rao, .int .i64 ran, .slice raA ral rac, .int .u8 rbo, .int .i64 rbn, .slice rbA rbl rbc, .slice ryA ryl ryc, .slice reA rel r9c] 43)).heap.size := by simp
  go_enter Tryz.func77, Tryz.ntmps77
  go_upto_region 4 with fail
  obtain ⟨W, hW⟩ : ∃ W, W = (w.alloc (.cells #[.int .u8 rk, .int .i64 rt, .int .u8 rao, .int .i64 ran, .slice raA ral rac, .int .u8 rbo, .int .i64 rbn, .slice rbA rbl rbc, .slice ryA ryl ryc, .slice reA rel r9c] 43)).alloc (.cells #[.bool qto, .bool qa, .bool qb, .bool qy, .bool qe] 141) := ⟨_, rfl⟩
  have hB1 : Below w.heap.size w W := by rw [hW]; exact hB0.alloc (by simp) _
  have hz1 : W.heap.size = w.heap.size + 2 := by rw [hW]; simp
  have tW : Ten W ⟨w.heap.size, 0, none⟩ ⟨rk, rt, rao, ran, raA, ral, rac, rbo, rbn, rbA, rbl, rbc, ryA, ryl, ryc, reA, rel, r9c⟩ := by rw [hW]; exact tn.below ((Below.refl _ _).alloc (Nat.le_refl _) _) z0
  have qW : Five W (w.heap.size + 1) qto qa qb qy qe := by
    have := Five.new (w.alloc (.cells #[.int .u8 rk, .int .i64 rt, .int .u8 rao, .int .i64 ran, .slice raA ral rac, .int .u8 rbo, .int .i64 rbn, .slice rbA rbl rbc, .slice ryA ryl ryc, .slice reA rel r9c] 43)) qto qa qb qy qe
    rw [hW]
    simpa using this
  rw [← hW]
  clear hW tn hB0 k0 k1 k2 k3 k4 c0 c1 c2 z0
  refine shaped_region _ (by kernel_rfl) rfl rfl rfl (by kernel_rfl) W _ rfl w.heap.size (w.heap.size + 1) rk rt rao ran raA ral rac rbo rbn rbA rbl rbc ryA ryl ryc reA rel r9c qto qa qb qy qe (noneE a) (noneE b) rfl rfl tW qW (by omega) (by omega)
    (fun W' h' => none_any d a _ lo hi W' (ha.below (hB1.trans (h'.mono hB1.size)) hhi)) (fun W' h' => none_any d b _ lo hi W' (hb.below (hB1.trans (h'.mono hB1.size)) hhi)) (fun us w' g' hu h32 hge hlt hB hF => ?_)
  obtain ⟨u0, u1, u2, u3, u4, u5, u6, u7, u8, u9, u10, u11, u12, u13, u14, u15, u16, u17, u18, u19, u20, u21, u22, u23, u24, u25, u26, u27, u28, u29, u30, u31, u32, rfl⟩ := len33 us hu
  have h32' : u32 = .pointer (some ⟨g', 0, none⟩) := h32
  subst h32'
  have t' := (tW.below hB (by show w.heap.size < _; omega)).c1
  have q' := qW.below hB (by omega)
  dsimp only at t'
  rw [Nat.zero_add] at t'
  have HBB : Hid (Below w.heap.size w w') := hB1.trans (hB.mono hB1.size)
  have HA := Lib.hid (fun (W' : World) (h' : Below w'.heap.size w' W') => maybe_any d a _ lo hi n n0 n1 W' (ha.below ((HBB.out).trans (h'.mono HBB.out.size)) hhi) (by have := HBB.out.size; have := h'.size; omega))
  have HB := Lib.hid (fun (W' : World) (h' : Below w'.heap.size w' W') => maybe_any d b _ lo hi n n0 n1 W' (hb.below ((HBB.out).trans (h'.mono HBB.out.size)) hhi) (by have := HBB.out.size; have := h'.size; omega))
  have TT := Lib.hid (tW.below hB (by show w.heap.size < _; omega))
  have f0 := hF.c0
  have f1 := hF.c1
  have f2 := hF.c2
  have f3 := hF.c3
  have f4 := hF.c4
  have g0 := q'.c0
  have g1 := q'.c1
  have g2 := q'.c2
  have g3 := q'.c3
  have g4 := q'.c4
  have HEQ := Lib.hid (eql_asks (qto || rt != 0) (!noneE a) (!noneE b) (qy || decide (0 < ryl)) (qe || decide (0 < rel)) qto qa qb qy qe)
  clear tW qW hF q' hu h32 hB ha hb hB1
  obtain ⟨x0, hx0⟩ : ∃ x0, x0 = (qto || rt != 0) := ⟨_, rfl⟩
  obtain ⟨x1, hx1⟩ : ∃ x1, x1 = !noneE a := ⟨_, rfl⟩
  obtain ⟨x2, hx2⟩ : ∃ x2, x2 = !noneE b := ⟨_, rfl⟩
  obtain ⟨x3, hx3⟩ : ∃ x3, x3 = (qy || decide (0 < ryl)) := ⟨_, rfl⟩
  obtain ⟨x4, hx4⟩ : ∃ x4, x4 = (qe || decide (0 < rel)) := ⟨_, rfl⟩
  rw [← hx0] at HEQ f0
  rw [← hx1] at HEQ f1
  rw [← hx2] at HEQ f2
  rw [← hx3] at HEQ f3
  rw [← hx4] at HEQ f4
  simp only [shDs, putAll, List.setIfInBounds_toArray, List.set_cons_succ, List.set_cons_zero]
  obtain ⟨q, hq⟩ : ∃ q, q = (x0 == qto && (x1 == qa && (x2 == qb && (x3 == qy && x4 == qe)))) := ⟨_, rfl⟩
  have HRES : Hid (((((qto || rt != 0) == qto) && (((!noneE a) == qa) && (((!noneE b) == qb) && (((qy || decide (0 < ryl)) == qy) && ((qe || decide (0 < rel)) == qe))))) && (decide (0 ≤ rt) && (decide (rt < 8) && (mayE d a n && mayE d b n)))) = (q && (decide (0 ≤ rt) && (decide (rt < 8) && (mayE d a n && mayE d b n))))) := by
    show _ = _
    rw [hq, hx0, hx1, hx2, hx3, hx4]
  rw [← hq] at HEQ
  clear hq hx0 hx1 hx2 hx3 hx4 hkd ll le h1 h8
  have z2 : w.heap.size < w'.heap.size := by omega
  have heq := HEQ.out
  cases q with
  | false =>
    clear HA HB TT
    go_wp2_with fail
    go_ret
    exact ⟨by rw [HRES.out]; rfl, HBB.out⟩
  | true =>
    by_cases l0 : 0 ≤ rt
    · by_cases l8 : rt < 8
      · have c2 := TT.out.c2
        have c3 := TT.out.c3
        have c4 := TT.out.c4
        dsimp only at c2 c3 c4
        rw [Nat.zero_add] at c2 c3 c4
        cases hma : mayE d a n with
        | false =>
          have HV : Hid ((true && (decide (0 ≤ rt) && (decide (rt < 8) && (mayE d a n && mayE d b n)))) = false) := by show _ = _; rw [hma]; simp
          rw [hma] at HA
          clear HB hma
          go_wp2_with fail
          refine (HA.out _ (Below.refl _ _)).mono ?_
          rintro e w10 ⟨rfl, b10⟩
          go_wp2_with fail
          go_ret
          exact ⟨by rw [HRES.out, HV.out]; rfl, HBB.out.trans (b10.mono HBB.out.size)⟩
        | true =>
          have HV : Hid ((true && (decide (0 ≤ rt) && (decide (rt < 8) && (mayE d a n && mayE d b n)))) = mayE d b n) := by show _ = _; rw [hma, decide_eq_true l0, decide_eq_true l8]; simp
          rw [hma] at HA
          obtain ⟨m, hm⟩ : ∃ m, m = mayE d b n := ⟨_, rfl⟩
          rw [← hm] at HB
          have HV2 : Hid (mayE d b n = m) := hm.symm
          clear hma hm
          go_wp2_with fail
          refine (HA.out _ (Below.refl _ _)).mono ?_
          rintro e w10 ⟨rfl, b10⟩
          have c5 := ((TT.out.below b10 z2).c5)
          have c6 := ((TT.out.below b10 z2).c6)
          have c7 := ((TT.out.below b10 z2).c7)
          dsimp only at c5 c6 c7
          rw [Nat.zero_add] at c5 c6 c7
          clear c2 c3 c4
          go_wp2_with fail
          refine (HB.out _ b10).mono ?_
          rintro e w11 ⟨rfl, b11⟩
          go_wp2_with fail
          go_ret
          exact ⟨by rw [HRES.out, HV.out, HV2.out]; rfl, HBB.out.trans ((b10.trans (b11.mono b10.size)).mono HBB.out.size)⟩
      · have HV : Hid ((true && (decide (0 ≤ rt) && (decide (rt < 8) && (mayE d a n && mayE d b n)))) = false) := by show _ = _; rw [decide_eq_false l8]; simp
        have l9 : decide (rt < 8) = false := decide_eq_false l8
        clear HA HB TT l8
        go_wp2_with fail
        go_ret
        exact ⟨by rw [HRES.out, HV.out]; rfl, HBB.out⟩
    · have HV : Hid ((true && (decide (0 ≤ rt) && (decide (rt < 8) && (mayE d a n && mayE d b n)))) = false) := by show _ = _; rw [decide_eq_false l0]; simp
      have l9 : decide (0 ≤ rt) = false := decide_eq_false l0
      clear HA HB TT l0
      go_wp2_with fail
      go_ret
      exact ⟨by rw [HRES.out, HV.out]; rfl, HBB.out⟩
theorem ask_eta (k : Nat) : ask k = ⟨(ask k).to, (ask k).a, (ask k).b, (ask k).body, (ask k).els⟩ := rfl
theorem shaped_any (d : Nat) (r : Raw) (s : St) (lo hi : Nat) (w : World) (n : Int) (n0 : -9223372036854775808 ≤ n) (n1 : n < 9223372036854775808) (hkd : Kd w) (h : SAt w lo hi d r s) (hhi : hi ≤ w.heap.size) :
    Calls Tryz.prog 77 #[r.v, .int .i64 n] w fun e w' => e = .returned (.bool (shapedF d s n)) ∧ Below w.heap.size w w' := by
  obtain ⟨d, rfl⟩ := h.pos
  obtain ⟨k, t, a, b, y, e⟩ := s
  obtain ⟨⟨e1, e2, e3, e4⟩, ⟨q1, q2, q3, q4, q5⟩, ha, hb, hy, he⟩ := h.open_
  obtain ⟨rk, rt, rao, ran, raA, ral, rac, rbo, rbn, rbA, rbl, rbc, ryA, ryl, ryc, reA, rel, r9c⟩ := r
  dsimp only at e1 e2 e3 e4
  subst e1 e2 e3 e4
  by_cases hr : rk < 1 ∨ 8 < rk
  · have hv : shapedF (d + 1) (.node rk rt a b y e) n = false := by unfold shapedF; exact if_pos hr
    rw [hv]
    exact shaped_out d rk rt rao ran raA ral rac rbo rbn rbA rbl rbc ryA y.length ryc reA e.length r9c n w hr
  · have hv : shapedF (d + 1) (.node rk rt a b y e) n = (hasF (ask rk) (.node rk rt a b y e) && (decide (0 ≤ rt) && (decide (rt < 8) && (mayE (d + 1) a n && mayE (d + 1) b n)))) := by unfold shapedF; exact if_neg hr
    rw [hv]
    exact shaped_in (d + 1) rk rt rao ran raA ral rac rbo rbn rbA rbl rbc ryA y.length ryc reA e.length r9c a b n lo hi w (by omega) (by omega) n0 n1 q2 q3 q4 q5 hkd hhi (ha.more _ _ (by omega)) (hb.more _ _ (by omega)) _ _ _ _ _ (ask_eta rk)
end Go.Proofs.YthdcdffdpdoeoaaGreatDoor
/-
  CONTRACT OF PACKAGE code's sound: whether a transaction's statements are shaped, not too many, not too deep, not of too many expressions; the memory that was there stays as it was. Conditions: the table of what each Kind asks lies as its initialiser lays it; as they stand.
-/
namespace Go.Proofs.YthdcdffdpdoeoaaGreatDoor
set_option maxRecDepth 100000
open Go.RowKit Go.Shelf
set_option linter.unusedVariables false
attribute [local go_sem] Oper.semAt_some
theorem okEach_few {D : Nat} {n : Int} {deep : Nat} {s : St} (h : shapedF D s n = true) : Few D s :=
  ⟨(mayE_cnt D D _ n (shaped_may h).1).imp id (fun h => by omega), (mayE_cnt D D _ n (shaped_may h).2).imp id (fun h => by omega)⟩
theorem okEach_le {D : Nat} {n : Int} {s : St} (h : shapedF D s n = true) : cntE D s.a ≤ 63 ∧ cntE D s.b ≤ 63 := by
  have h1 := mayE_cnt D D _ n (shaped_may h).1
  have h2 := mayE_cnt D D _ n (shaped_may h).2
  unfold cntE
  constructor
  · split <;> omega
  · split <;> omega
theorem nodes_ok {w : World} {hi D : Nat} {n : Int} {Pr : St → Prop} (l : List (El w hi D Pr)) (h : ∀ x ∈ l, okEach D n x.key = true) : nodesL D (l.map El.key) ≤ l.length * 126 := by
  induction l with
  | nil => simp [nodesL]
  | cons x r ih =>
    have hx := h x List.mem_cons_self
    unfold okEach at hx
    rw [Bool.and_eq_true] at hx
    have h1 := okEach_le hx.2
    have h2 : nodesL D ((x :: r).map El.key) = (cntE D x.s.a + cntE D x.s.b) + nodesL D (r.map El.key) := by simp [nodesL, El.key, nodesOf]
    have h3 := ih fun y hy => h y (List.mem_cons_of_mem _ hy)
    have h4 : cntE D x.s.a ≤ 63 ∧ cntE D x.s.b ≤ 63 := h1
    rw [h2, List.length_cons]
    omega
set_option maxRecDepth 100000 in
set_option maxHeartbeats 4000000 in
theorem sound_in (D : Nat) (A : Option Addr) (c : Nat) (tx : List St) (n : Int) (n0 : -9223372036854775808 ≤ n) (n1 : n < 9223372036854775808) (w : World) (hkd : Kd w) (hk : SKids w 0 w.heap.size D A tx) (hl : tx.length ≤ 9223372036854775807) (hD : D ≤ 4611686018427387903) :
    CallsIn Fence.wide 3 Tryz.prog 58 #[.slice A tx.length c, .int .i64 n] w fun e w' => e = .returned (.bool (soundF D tx n)) ∧ Below w.heap.size w w' := by
  have hfn : ∀ f, Fence.wide.fn f := fun _ => trivial
  have HK := Lib.hid hk
  have HKD := Lib.hid hkd
  clear hk hkd
  refine callsIn_of_wp_marks Tryz.func58 rfl trivial ?_ rfl
  simp only [Tryz.ntmps58, List.size_toArray, List.length_cons, List.length_nil, Nat.reduceAdd, Nat.reduceSub, Array.replicate_succ, Array.replicate_zero, List.push_toArray, List.append_toArray, List.nil_append, List.cons_append]
  gi_wp2_with (gi_at_call 76; refine (stm_in Fence.wide (3 - 1) trivial rfl _ _ _ _).mono ?_; rintro e w' ⟨rfl, rfl⟩)
  have bV := ((((_root_.Go.Boxed.new w 3 (.int .i64 n)).alloc (.cells #[.bool false] 4)).alloc (.cells #[.int .i64 0] 3)).alloc (.cells #[.int .i64 0] 3)).alloc (.cells #[.slice A tx.length c] 41)
  have bR := (((_root_.Go.Boxed.new (w.alloc (.cells #[.int .i64 n] 3)) 4 (.bool false)).alloc (.cells #[.int .i64 0] 3)).alloc (.cells #[.int .i64 0] 3)).alloc (.cells #[.slice A tx.length c] 41)
  have bS := ((_root_.Go.Boxed.new ((w.alloc (.cells #[.int .i64 n] 3)).alloc (.cells #[.bool false] 4)) 3 (.int .i64 0)).alloc (.cells #[.int .i64 0] 3)).alloc (.cells #[.slice A tx.length c] 41)
  have bN := (_root_.Go.Boxed.new (((w.alloc (.cells #[.int .i64 n] 3)).alloc (.cells #[.bool false] 4)).alloc (.cells #[.int .i64 0] 3)) 3 (.int .i64 0)).alloc (.cells #[.slice A tx.length c] 41)
  have bT := _root_.Go.Boxed.new ((((w.alloc (.cells #[.int .i64 n] 3)).alloc (.cells #[.bool false] 4)).alloc (.cells #[.int .i64 0] 3)).alloc (.cells #[.int .i64 0] 3)) 41 (.slice A tx.length c)
  simp only [World.size_alloc] at bR bS bN bT
  have hB0 : Below w.heap.size w (((((w.alloc (.cells #[.int .i64 n] 3)).alloc (.cells #[.bool false] 4)).alloc (.cells #[.int .i64 0] 3)).alloc (.cells #[.int .i64 0] 3)).alloc (.cells #[.slice A tx.length c] 41)) := (((((Below.refl _ w).alloc (Nat.le_refl _) _).alloc (by simp) _).alloc (by simp; omega) _).alloc (by simp; omega) _).alloc (by simp; omega) _
  have hsz : (((((w.alloc (.cells #[.int .i64 n] 3)).alloc (.cells #[.bool false] 4)).alloc (.cells #[.int .i64 0] 3)).alloc (.cells #[.int .i64 0] 3)).alloc (.cells #[.slice A tx.length c] 41)).heap.size = w.heap.size + 5 := by simp
  obtain ⟨W0, hW0⟩ : ∃ W0, ((((w.alloc (.cells #[.int .i64 n] 3)).alloc (.cells #[.bool false] 4)).alloc (.cells #[.int .i64 0] 3)).alloc (.cells #[.int .i64 0] 3)).alloc (.cells #[.slice A tx.length c] 41) = W0 := ⟨_, rfl⟩
  rw [hW0] at bV bR bS bN bT hB0 hsz ⊢
  clear hW0
  refine wpIn_rangeFunc_ownH (w0 := W0) (encs := elV (w := w) (hi := w.heap.size) (D := D) (Pr := fun _ => True)) (Kp := Kc w.heap.size W0.heap.size) (S := fun ys => ys.map El.key = flat D tx) (Sp := fun ys => ys.map El.key <+: flat D tx) (N := (flat D tx).length)
    rfl (by omega) (gf := 89) (lb := #[.pointer (some ⟨w.heap.size + 1 + 1 + 1 + 1, 0, none⟩)]) rfl trivial (enters_of Tryz.func89 (by kernel_rfl) rfl)
    (stm_stops Fence.wide rfl (3 - 1) trivial trivial rfl (w.heap.size + 1 + 1 + 1 + 1) w.heap.size D (fun _ => True) w W0 A c tx (by omega) (by omega) bT.cell HK.out (fun _ _ => trivial) hB0 hl hD) (fun h k => h.trans k) (fun W l o o' hl h hc _ => Kc.putObj (w := W0) (by omega) l o o' hl h hc) (Below.refl _ _) (fun _ => rfl)
    (fun pre W => (((_root_.Go.Boxed W w.heap.size 3 (.int .i64 n) ∧ _root_.Go.Boxed W (w.heap.size + 1) 4 (.bool false)) ∧ (_root_.Go.Boxed W (w.heap.size + 1 + 1) 3 (.int .i64 pre.length) ∧ _root_.Go.Boxed W (w.heap.size + 1 + 1 + 1) 3 (.int .i64 (nodesL D (pre.map El.key) : Nat)))) ∧ (pre.length ≤ 40 ∧ ∀ x ∈ pre, okEach D n x.key = true)) ∧ Below w.heap.size w W)
    (fun c pre W => ((c = .ret ∧ (40 < pre.length ∨ ∃ x ∈ pre, okEach D n x.key = false)) ∧ _root_.Go.Boxed W (w.heap.size + 1) 4 (.bool false)) ∧ Below w.heap.size w W)
    (OwnFrom.and (OwnFrom.and (OwnFrom.and (OwnFrom.and (Own.from (boxed_own _ _ _) _) (Own.from (boxed_own _ _ _) _)) (OwnFrom.and (Own.from (boxed_own _ _ _) _) (Own.from (boxed_own _ _ _) _))) (ownFrom_pure _ _)) (ownFrom_below (Nat.le_refl _) (by omega)))
    (fun c => OwnFrom.and (OwnFrom.and (ownFrom_pure _ _) (Own.from (boxed_own _ _ _) _)) (ownFrom_below (Nat.le_refl _) (by omega)))
    ⟨⟨⟨⟨bV, bR⟩, bS, bN⟩, by simp, by simp⟩, hB0⟩
    (fun x a' W => ∃ Bx, w.heap.size + 3 < Bx ∧ BoxS W Bx x.r ∧ a' = { tmps := #[.slice A tx.length c, .int .i64 n, undef, .pointer (some ⟨w.heap.size, 0, none⟩), .pointer (some ⟨w.heap.size + 1, 0, none⟩), .pointer (some ⟨w.heap.size + 1 + 1, 0, none⟩), .pointer (some ⟨w.heap.size + 1 + 1 + 1, 0, none⟩), .int .i64 x.deep, .pointer (some ⟨Bx, 0, none⟩), .slice A tx.length c, .func (.func 89) #[] #[.pointer (some ⟨w.heap.size + 1 + 1 + 1 + 1, 0, none⟩)], .int .i64 x.deep, x.r.v, undef, undef, undef, undef, undef, undef, undef, undef, undef, undef, undef, undef, undef, undef, undef, undef, undef, undef, undef, undef, undef, undef, undef, undef, undef], defers := [] })
    (fun x a' _ X Y row hs hg hr => by obtain ⟨Bx, e1, e2, e3⟩ := hs; exact ⟨Bx, e1, BoxS.own () X Y row e2 hg hr, e3⟩) ?assign ?body ?done ?stop
  case assign =>
    rintro l pre x W K ⟨⟨⟨⟨bV1, bR1⟩, bS1, bN1⟩, hp⟩, hB1⟩ hK
    have hn := hB1.size
    have hz := bN1.lt
    obtain ⟨deep, q, s, small, at_, pr⟩ := x
    obtain ⟨qk, qt, qao, qan, qaA, qal, qac, qbo, qbn, qbA, qbl, qbc, qyA, qyl, qyc, qeA, qel, qec⟩ := q
    rw [show elV (⟨deep, ⟨qk, qt, qao, qan, qaA, qal, qac, qbo, qbn, qbA, qbl, qbc, qyA, qyl, qyc, qeA, qel, qec⟩, s, small, at_, pr⟩ : El w w.heap.size D (fun _ => True)) = #[.int .i64 deep, .agg #[.int .u8 qk, .int .i64 qt, .int .u8 qao, .int .i64 qan, .slice qaA qal qac, .int .u8 qbo, .int .i64 qbn, .slice qbA qbl qbc, .slice qyA qyl qyc, .slice qeA qel qec]] from rfl]
    gi_wp2
    exact hK _ _ ((KeepsOthers.alloc _ _).from _) (Kc.alloc _ hn) ⟨⟨⟨⟨bV1.alloc _, bR1.alloc _⟩, bS1.alloc _, bN1.alloc _⟩, hp⟩, hB1.alloc hn _⟩ ⟨W.heap.size, by omega, BoxS.new W ⟨qk, qt, qao, qan, qaA, qal, qac, qbo, qbn, qbA, qbl, qbc, qyA, qyl, qyc, qeA, qel, qec⟩, rfl⟩
  case body =>
    rintro l pre x a' W hl ⟨r, hr⟩ ⟨⟨⟨⟨bV1, bR1⟩, bS1, bN1⟩, hp⟩, hB1⟩ ⟨Bx, hBx, bX, rfl⟩ hlt
    have cS := bS1.cell
    have fS := bS1.frozen
    have hp40 := hp.1
    have HP := Lib.hid hp
    clear hp
    refine wpIn_block (wpIn_seq_k fun K hK => ?_)
    have HKK := Lib.hid hK
    clear hK
    gi_wp2
    refine HKK.out _ _ ?_
    clear HKK cS fS
    obtain ⟨W2, hW2⟩ : ∃ W2, W2 = W.setCell ⟨w.heap.size + 1 + 1, 0, none⟩ (.int .i64 (pre.length + 1)) := ⟨_, rfl⟩
    have hz := bN1.lt
    have hB2 : Below w.heap.size w W2 := by rw [hW2]; exact hB1.setCell (p := ⟨w.heap.size + 1 + 1, 0, none⟩) (show w.heap.size ≤ w.heap.size + 1 + 1 by omega) _
    have bV2 : _root_.Go.Boxed W2 w.heap.size 3 (.int .i64 n) := by rw [hW2]; exact bV1.other (by omega) _
    have bR2 : _root_.Go.Boxed W2 (w.heap.size + 1) 4 (.bool false) := by rw [hW2]; exact bR1.other (by omega) _
    have bS2 : _root_.Go.Boxed W2 (w.heap.size + 1 + 1) 3 (.int .i64 (pre.length + 1)) := by rw [hW2]; exact bS1.set _
    have bN2 : _root_.Go.Boxed W2 (w.heap.size + 1 + 1 + 1) 3 (.int .i64 (nodesL D (pre.map El.key) : Nat)) := by rw [hW2]; exact bN1.other (by omega) _
    have bX2 : BoxS W2 Bx x.r := by rw [hW2]; exact bX.set (by omega)
    have hKF : KeepsFrom W0.heap.size W W2 := by rw [hW2]; exact (KeepsOthers.setCell _ _ _).from _
    have hKC : Kc w.heap.size W0.heap.size W W2 := by rw [hW2]; exact Kc.set _ (by omega) (by omega)
    rw [← hW2]
    clear hW2 bV1 bR1 bS1 bN1 bX hB1
    have hlen : (pre ++ [x]).length = pre.length + 1 := by simp
    have cS := bS2.cell
    have cR := bR2.cell
    have fR := bR2.frozen
    have HSZ := Lib.hid hsz
    clear hsz
    have HR := Lib.hid (And.intro bR2 (And.intro hB2 (And.intro hKF hKC)))
    have hmem : x ∈ pre ++ [x] := List.mem_append_right _ List.mem_cons_self
    have hend : ∀ W', KeepsFrom W0.heap.size W W' → Below w.heap.size w W' → _root_.Go.Boxed W' (w.heap.size + 1) 4 (.bool false) → (40 < (pre ++ [x]).length ∨ okEach D n x.key = false) → (KeepsFrom W0.heap.size W (W'.setCell ⟨w.heap.size + 1, 0, none⟩ (.bool false)) ∧ (40 < (pre ++ [x]).length ∨ ∃ y ∈ pre ++ [x], okEach D n y.key = false) ∧ _root_.Go.Boxed (W'.setCell ⟨w.heap.size + 1, 0, none⟩ (.bool false)) (w.heap.size + 1) 4 (.bool false) ∧ Below w.heap.size w (W'.setCell ⟨w.heap.size + 1, 0, none⟩ (.bool false))) := fun W' h1 h2 h3 h4 =>
      ⟨h1.trans ((KeepsOthers.setCell _ _ _).from _), h4.imp id fun h => ⟨x, hmem, h⟩, h3.set _, h2.setCell (p := ⟨w.heap.size + 1, 0, none⟩) (show w.heap.size ≤ w.heap.size + 1 by omega) _⟩
    have HEND := Lib.hid hend
    clear hend hmem
    by_cases h40 : 40 < pre.length + 1
    · have HE := Lib.hid (HEND.out W2 hKF hB2 bR2 (.inl (by rw [hlen]; exact h40)))
      have e40 : decide (40 < (pre.length : Int) + 1) = true := decide_eq_true (by omega)
      clear HP HR HEND hlen
      gi_wp2
      obtain ⟨k1, k2, k3, k4⟩ := HE.out
      exact ⟨k1, ⟨⟨rfl, k2⟩, k3⟩, k4⟩
    have e40 : decide (40 < (pre.length : Int) + 1) = false := decide_eq_false (by omega)
    by_cases h6 : 6 < x.deep
    · have HE := Lib.hid (HEND.out W2 hKF hB2 bR2 (.inr (by unfold okEach; rw [show x.key.1 = x.deep from rfl, decide_eq_false (by omega)]; rfl)))
      have e6 : decide (6 < (x.deep : Int)) = true := decide_eq_true (by omega)
      clear HP HR HEND hlen
      gi_wp2
      obtain ⟨k1, k2, k3, k4⟩ := HE.out
      exact ⟨k1, ⟨⟨rfl, k2⟩, k3⟩, k4⟩
    have e6 : decide (6 < (x.deep : Int)) = false := decide_eq_false (by omega)
    have tx2 := bX2.ten
    have t0 := tx2.c0
    have t1 := tx2.c1
    have t2 := tx2.c2
    have t3 := tx2.c3
    have t4 := tx2.c4
    have t5 := tx2.c5
    have t6 := tx2.c6
    have t7 := tx2.c7
    have t8 := tx2.c8
    have t9 := tx2.c9
    rw [Nat.zero_add] at t1 t2 t3 t4 t5 t6 t7 t8 t9
    have cV := bV2.cell
    have hsat := x.at_.below hB2 (Nat.le_refl _)
    have HS := Lib.hid (shaped_any D x.r x.s 0 w.heap.size W2 n n0 n1 (HKD.out.below hB2 (Nat.le_refl _)) hsat hB2.size)
    cases hsh : shapedF D x.s n with
    | false =>
      rw [hsh] at HS
      have HE : Hid (∀ W', Below W2.heap.size W2 W' → _) := fun W' h' => HEND.out W' (hKF.trans (keeps_below h')) (hB2.trans (h'.mono hB2.size)) ((h'.block _ bR2.lt).trans bR2) (.inr (by unfold okEach; rw [show x.key.2 = x.s from rfl, hsh, Bool.and_false]))
      have hR1 : Hid (∀ W', Below W2.heap.size W2 W' → W'.cell? ⟨w.heap.size + 1, 0, none⟩ = some (.bool false) ∧ W'.frozen? ⟨w.heap.size + 1, 0, none⟩ = false) := fun W' h' => ⟨(h'.cell (p := ⟨_, _, none⟩) bR2.lt).trans cR, (h'.frozen (p := ⟨_, _, none⟩) bR2.lt).trans fR⟩
      clear HP HR HEND hlen hsh hsat tx2 bX2 bN2 bS2 bV2 bR2 hB2 hKF hKC
      gi_wp2_with (gi_at_call 77; refine (CallsIn.inRound l (callsIn_wide.2 HS.out)).mono ?_; rintro e w5 ⟨rfl, b5⟩; obtain ⟨r1, r2⟩ := hR1.out w5 b5)
      obtain ⟨k1, k2, k3, k4⟩ := HE.out _ b5
      exact ⟨k1, ⟨⟨rfl, k2⟩, k3⟩, k4⟩
    | true =>
      rw [hsh] at HS
      have hR1 : Hid (∀ W', Below W2.heap.size W2 W' → W'.cell? ⟨w.heap.size + 1, 0, none⟩ = some (.bool false) ∧ W'.frozen? ⟨w.heap.size + 1, 0, none⟩ = false) := fun W' h' => ⟨(h'.cell (p := ⟨_, _, none⟩) bR2.lt).trans cR, (h'.frozen (p := ⟨_, _, none⟩) bR2.lt).trans fR⟩
      have hp := HP.out
      have hok : okEach D n x.key = true := by unfold okEach; rw [show x.key.2 = x.s from rfl, hsh, show x.key.1 = x.deep from rfl, decide_eq_true (show x.deep ≤ 6 by omega)]; rfl
      have hall : ∀ y ∈ pre ++ [x], okEach D n y.key = true := fun y hy => (List.mem_append.1 hy).elim (hp.2 y) (fun h => by rw [List.mem_singleton.1 h]; exact hok)
      have hle := okEach_le hsh
      have hnu := nodes_ok pre hp.2
      have hfw := okEach_few (deep := x.deep) hsh
      have hnd : nodesL D ((pre ++ [x]).map El.key) = nodesL D (pre.map El.key) + (cntE D x.s.a + cntE D x.s.b) := by rw [List.map_append]; exact nodesL_snoc _ _ _
      have hab := x.at_.ab
      have HALL := Lib.hid (And.intro hall (And.intro hle (And.intro hnu (And.intro hfw (And.intro hnd (And.intro hab hlen))))))
      have HB := Lib.hid (And.intro hB2 (And.intro bV2 (And.intro bR2 (And.intro bS2 (And.intro bN2 (And.intro bX2 (And.intro hKF hKC)))))))
      clear HP HR HEND hsh hsat tx2 bX2 bN2 bS2 bV2 bR2 hB2 hKF hKC hall hle hnu hfw hok hp hnd hab hlen
      gi_wp2_with (gi_at_call 77; refine (CallsIn.inRound l (callsIn_wide.2 HS.out)).mono ?_; rintro e w5 ⟨rfl, b5⟩; obtain ⟨r1, r2⟩ := hR1.out w5 b5)
      obtain ⟨hall, hle, hnu, hfw, hnd, hab, hlen⟩ := HALL.out
      obtain ⟨hB2, bV2, bR2, bS2, bN2, bX2, hKF, hKC⟩ := HB.out
      have hsz := HSZ.out
      have hB5 := hB2.trans (b5.mono hB2.size)
      have tx5 := (bX2.below b5 bX2.lt).ten
      have bN5 : _root_.Go.Boxed w5 (w.heap.size + 1 + 1 + 1) 3 (.int .i64 (nodesL D (pre.map El.key) : Nat)) := (b5.block _ bN2.lt).trans bN2
      obtain ⟨u, hu⟩ : ∃ u, u = nodesL D (pre.map El.key) := ⟨_, rfl⟩
      rw [← hu] at hnd hnu bN5
      refine nodes_region _ 27 6 8 (by omega) (by omega) (by kernel_rfl) rfl (by kernel_rfl) w5 _ (by simp) Bx (w.heap.size + 1 + 1 + 1) u (cntE D x.s.a : Nat) (cntE D x.s.b : Nat) _ _ _ _ _ _ rfl rfl (by omega) (by omega) (by omega) (by omega) bN5.cell bN5.frozen bN5.lt (bX2.below b5 bX2.lt).lt tx5.c2 tx5.c3 tx5.c4 tx5.c5 tx5.c6 tx5.c7
        (fun W' h' => cnte_any D x.s.a x.r.va 0 w.heap.size W' (hab.1.below (hB5.trans (h'.mono hB5.size)) (Nat.le_refl _)) (by have := hB5.size; have := h'.size; omega) hfw.1)
        (fun W' h' => cnte_any D x.s.b x.r.vb 0 w.heap.size W' (hab.2.below (hB5.trans (h'.mono hB5.size)) (Nat.le_refl _)) (by have := hB5.size; have := h'.size; omega) hfw.2) (fun a W' h' => ?_)
      have e1 : (u : Int) + ((cntE D x.s.a : Nat) + (cntE D x.s.b : Nat)) = ((u + (cntE D x.s.a + cntE D x.s.b) : Nat) : Int) := by omega
      have b9 : Below W2.heap.size W2 W' := b5.trans (h'.mono b5.size)
      have bV9 : _root_.Go.Boxed W' w.heap.size 3 (.int .i64 n) := (b9.block _ bV2.lt).trans bV2
      have bR9 : _root_.Go.Boxed W' (w.heap.size + 1) 4 (.bool false) := (b9.block _ bR2.lt).trans bR2
      have bS9 : _root_.Go.Boxed W' (w.heap.size + 1 + 1) 3 (.int .i64 (pre.length + 1)) := (b9.block _ bS2.lt).trans bS2
      have bN9 : _root_.Go.Boxed W' (w.heap.size + 1 + 1 + 1) 3 (.int .i64 u) := (h'.block _ bN5.lt).trans bN5
      refine ⟨hKF.trans ((keeps_below b9).trans ((KeepsOthers.setCell _ _ _).from _)), hKC.trans ((Kc.of_below b9 hB2.size).trans (Kc.set _ (by omega) (by omega))), ⟨⟨⟨bV9.other (by omega) _, bR9.other (by omega) _⟩, ?_, ?_⟩, by omega, hall⟩, (hB2.trans (b9.mono hB2.size)).setCell (p := ⟨w.heap.size + 1 + 1 + 1, 0, none⟩) (show w.heap.size ≤ w.heap.size + 1 + 1 + 1 by omega) _⟩
      · rw [hlen]
        exact bS9.other (by omega) _
      · rw [hnd, ← e1]
        exact bN9.set _
  case done =>
    rintro Dd zs W hD' hz ⟨⟨⟨⟨bV1, bR1⟩, bS1, bN1⟩, hp⟩, hB1⟩ hK
    have hzl := congrArg List.length hz
    rw [List.length_map] at hzl
    have hv : soundF D tx n = decide (nodesL D (flat D tx) ≤ 300) := by
      unfold soundF
      have h1 : (flat D tx).all (okEach D n) = true := by
        rw [List.all_eq_true]
        intro y hy
        rw [← hz] at hy
        obtain ⟨x, hx, rfl⟩ := List.mem_map.1 hy
        exact hp.2 x hx
      rw [h1, decide_eq_true (show (flat D tx).length ≤ 40 by omega)]
      rfl
    rw [hz] at bN1
    obtain ⟨u, hu⟩ : ∃ u, u = nodesL D (flat D tx) := ⟨_, rfl⟩
    rw [← hu] at bN1 hv
    rw [show decide (u ≤ 300) = decide ((u : Int) ≤ 300) from decide_eq_decide.2 (by omega)] at hv
    have HV := Lib.hid hv
    have HX := Lib.hid (And.intro bR1 hB1)
    have hK1 : Hid ((W.setCell ⟨w.heap.size + 1, 0, none⟩ (.bool (decide ((u : Int) ≤ 300)))).heap[Dd]? = some (.deferred (some []))) := (KeepsOthers.setCell W ⟨w.heap.size + 1, 0, none⟩ (.bool (decide ((u : Int) ≤ 300)))).same Dd _ hK rfl
    have cR := bR1.cell
    have fR := bR1.frozen
    have cN := bN1.cell
    clear hv hp hz hzl bV1 bS1 hK hu bN1
    gi_wp2
    obtain ⟨bR1, hB1⟩ := HX.out
    have hK9 := hK1.out
    refine ⟨by simp, .inl ⟨_, _, rfl, run_takeDeferred hK9, ?_⟩⟩
    have q1 := cell_kept (bR1.set (.bool (decide ((u : Int) ≤ 300)))).cell (grownBy_putObj' _ Dd (.deferred none)) (fun r e => by cases e; exact ⟨_, hK9, rfl⟩)
    refine ⟨.bool (decide ((u : Int) ≤ 300)), ?_, by rw [HV.out], (hB1.setCell (p := ⟨w.heap.size + 1, 0, none⟩) (show w.heap.size ≤ w.heap.size + 1 by omega) _).trans (belowK_b (w := w) (Nat.le_refl _) _ Dd _ _ (by omega) hK9 rfl rfl)⟩
    simp [results, Tryz.f58, go_sem, q1]
  case stop =>
    rintro Dd cc pre W hD' hpre ⟨⟨⟨rfl, hbad⟩, bR1⟩, hB1⟩ hK
    have hv : soundF D tx n = false := by
      obtain ⟨v, hv⟩ := hpre
      unfold soundF
      rcases hbad with h | ⟨x, hx, hx2⟩
      · have hl2 := congrArg List.length hv
        rw [List.length_append, List.length_map] at hl2
        rw [decide_eq_false (show ¬ (flat D tx).length ≤ 40 by omega)]
        rfl
      · have h1 : (flat D tx).all (okEach D n) = false := by
          rw [List.all_eq_false]
          exact ⟨x.key, by rw [← hv]; exact List.mem_append_left _ (List.mem_map.2 ⟨x, hx, rfl⟩), by rw [hx2]; simp⟩
        rw [h1, Bool.false_and, Bool.and_false]
    gi_wp2
    refine ⟨by simp, .inl ⟨_, _, rfl, run_takeDeferred hK, ?_⟩⟩
    have q1 := cell_kept bR1.cell (grownBy_putObj' _ Dd (.deferred none)) (fun r e => by cases e; exact ⟨_, hK, rfl⟩)
    refine ⟨.bool false, ?_, by rw [hv], hB1.trans (belowK_b (w := w) (Nat.le_refl _) W Dd _ _ (by omega) hK rfl rfl)⟩
    simp [results, Tryz.f58, go_sem, q1]
theorem sound_of (D : Nat) (A : Option Addr) (c : Nat) (tx : List St) (n : Int) (n0 : -9223372036854775808 ≤ n) (n1 : n < 9223372036854775808) (lo hi : Nat) (w : World) (hkd : Kd w) (hk : SKids w lo hi D A tx) (hhi : hi ≤ w.heap.size) (hl : tx.length ≤ 9223372036854775807) (hD : D ≤ 4611686018427387903) :
    Calls Tryz.prog 58 #[.slice A tx.length c, .int .i64 n] w fun e w' => e = .returned (.bool (soundF D tx n)) ∧ Below w.heap.size w w' :=
  callsIn_wide.1 (sound_in D A c tx n n0 n1 w hkd (hk.wide (Nat.zero_le _) hhi) hl hD)
end Go.Proofs.YthdcdffdpdoeoaaGreatDoor
/-
  CONTRACTS OF PACKAGE code's Cost and cost: a transaction's cost, cut; a statement's; the memory that was there stays as it was. Conditions: as they stand.
-/
namespace Go.Proofs.YthdcdffdpdoeoaaGreatDoor
set_option maxRecDepth 100000
open Go.RowKit
set_option linter.unusedVariables false
def CostS (d : Nat) : Prop := ∀ (r : Raw) (s : St) (lo hi : Nat) (w : World), SAt w lo hi d r s → hi ≤ w.heap.size →
    Calls Tryz.prog 79 #[r.v] w fun e w' => e = .returned (.int .i64 (costF d s : Nat)) ∧ Below w.heap.size w w'
set_option maxRecDepth 100000 in
theorem cost_block (d : Nat) (ih : CostS d) (A : Option Addr) (c : Nat) (tx : List St) (lo hi : Nat) (w : World) (hk : SKids w lo hi d A tx) (hhi : hi ≤ w.heap.size) (hl : tx.length ≤ 9223372036854775807) :
    Calls Tryz.prog 59 #[.slice A tx.length c] w fun e w' => e = .returned (.int .i64 (costL (costF d) tx 0 : Nat)) ∧ Below w.heap.size w w' := by
  have HK := Lib.hid hk
  have IH := Lib.hid ih
  clear hk ih
  go_enter Tryz.func59, Tryz.ntmps59
  go_wp2_with fail
  go_loopw [3, 8] (fun a i wr => ∃ k u : Nat, k ≤ tx.length ∧ i = .int .i64 k ∧ a = .int .i64 u ∧ u ≤ 2000 ∧ Hid (costL (costF d) tx 0 = costL (costF d) (tx.drop k) u) ∧ Below w.heap.size w wr) (fun _ i _ => tx.length - (intOf i).toNat)
  case atStart => exact ⟨0, 0, by omega, rfl, rfl, by omega, rfl, Below.refl _ _⟩
  case round =>
    obtain ⟨k, u, hk, rfl, rfl, hu, hv, hb⟩ := hrel
    by_cases hlt : k < tx.length
    · obtain ⟨p, q, rfl, m1, m2, ht, hs⟩ := HK.out.below hb (by omega) k hlt
      have g0 := ht.c0
      have g1 := ht.c1
      have g2 := ht.c2
      have g3 := ht.c3
      have g4 := ht.c4
      have g5 := ht.c5
      have g6 := ht.c6
      have g7 := ht.c7
      have g8 := ht.c8
      have g9 := ht.c9
      have bx := ten_below wr q
      have HI := Lib.hid (IH.out q tx[k] lo hi _ (hs.below bx (by have := hb.size; omega)) (by have := hb.size; have := bx.size; omega))
      have HX := Lib.hid bx
      have hd := hv.out
      rw [costL_drop _ _ _ _ hlt] at hd
      have hj1 := costF_le d tx[k]
      obtain ⟨j, hj⟩ : ∃ j, j = costF d tx[k] := ⟨_, rfl⟩
      rw [← hj] at hd hj1 HI
      obtain ⟨qk, qt, qao, qan, qaA, qal, qac, qbo, qbn, qbA, qbl, qbc, qyA, qyl, qyc, qeA, qel, qec⟩ := q
      simp only [Raw.v] at HI
      clear hj ht hs bx hv
      by_cases hbig : 2000 < u + j
      · rw [if_pos hbig] at hd
        have HD := Lib.hid hd
        clear hd
        go_wp2_with fail
        refine HI.out.mono ?_
        rintro r w5 ⟨rfl, b5⟩
        clear g0 g1 g2 g3 g4 g5 g6 g7 g8 g9
        go_wp2_with fail
        go_ret
        exact ⟨by rw [HD.out]; rfl, hb.trans ((HX.out.trans (b5.mono HX.out.size)).mono hb.size)⟩
      · rw [if_neg hbig] at hd
        have HD := Lib.hid hd
        clear hd
        go_wp2_with fail
        refine HI.out.mono ?_
        rintro r w5 ⟨rfl, b5⟩
        clear g0 g1 g2 g3 g4 g5 g6 g7 g8 g9
        go_wp2_with fail
        go_roundw
        case rel => exact ⟨k + 1, u + j, by omega, by go_num, by go_num, by omega, HD.out, hb.trans ((HX.out.trans (b5.mono HX.out.size)).mono hb.size)⟩
        case measure => simp [intOf]; omega
    · have HD : Hid (costL (costF d) tx 0 = u) := by show _ = _; rw [hv.out, List.drop_eq_nil_of_le (by omega)]; rfl
      clear hv
      go_wp2_with fail
      go_ret
      exact ⟨by rw [HD.out]; rfl, hb⟩

set_option maxRecDepth 100000 in
theorem cost_any (d : Nat) : CostS d := by
  induction d with
  | zero => intro r s lo hi w h; exact h.elim
  | succ d ih =>
    intro r s lo hi w h hhi
    obtain ⟨k, t, a, b, y, e⟩ := s
    obtain ⟨⟨e1, e2, e3, e4⟩, ⟨q1, q2, q3, q4, q5⟩, ha, hb, hy, he⟩ := h.open_
    have b0 := ten_below w r
    have tn := Ten.new w r
    have HY := Lib.hid (fun W' (h' : Below w.heap.size w W') (c : Nat) => cost_block d ih r.yA c y lo hi W' (hy.below h' hhi) (by have := h'.size; omega) q4)
    have HE := Lib.hid (fun W' (h' : Below w.heap.size w W') (c : Nat) => cost_block d ih r.eA c e lo hi W' (he.below h' hhi) (by have := h'.size; omega) q5)
    have hy0 := costL_le (costF d) y 0 (by omega)
    have he0 := costL_le (costF d) e 0 (by omega)
    have z0 : w.heap.size < (w.alloc (.cells #[.int .u8 r.k, .int .i64 r.t, .int .u8 r.ao, .int .i64 r.an, .slice r.aA r.al r.ac, .int .u8 r.bo, .int .i64 r.bn, .slice r.bA r.bl r.bc, .slice r.yA r.yl r.yc, .slice r.eA r.el r.ec] 43)).heap.size := by simp
    obtain ⟨rk, rt, rao, ran, raA, ral, rac, rbo, rbn, rbA, rbl, rbc, ryA, ryl, ryc, reA, rel, r9c⟩ := r
    dsimp only [Raw.v] at *
    subst e1 e2 e3 e4
    clear ha hb hy he h ih hhi
    have f0 := tn.c0
    dsimp only at f0
    by_cases h4 : rk = 4
    · have HV : Hid (costF (d + 1) (.node rk rt a b y e) = 1 + max (costL (costF d) y 0) (costL (costF d) e 0)) := by show costF _ _ = _; rw [costF, if_pos h4]
      obtain ⟨u, hu⟩ : ∃ u, u = costL (costF d) y 0 := ⟨_, rfl⟩
      obtain ⟨v, hv⟩ : ∃ v, v = costL (costF d) e 0 := ⟨_, rfl⟩
      rw [← hu] at HY HV hy0
      rw [← hv] at HE HV he0
      clear hu hv
      have t4 : ((rk : Int) == 4) = true := by simp; omega
      clear h4
      go_enter Tryz.func79, Tryz.ntmps79
      go_upto_region 3 with fail
      obtain ⟨W, hW⟩ : ∃ W, W = w.alloc (.cells #[.int .u8 rk, .int .i64 rt, .int .u8 rao, .int .i64 ran, .slice raA ral rac, .int .u8 rbo, .int .i64 rbn, .slice rbA rbl rbc, .slice ryA y.length ryc, .slice reA e.length r9c] 43) := ⟨_, rfl⟩
      rw [← hW] at b0 z0 tn ⊢
      clear hW f0
      have f8 := tn.c8
      have f9 := tn.c9
      dsimp only at f8 f9
      have hkeep : Hid (∀ w' : World, Below W.heap.size W w' → w'.cell? ⟨w.heap.size, 8, none⟩ = some (.slice ryA y.length ryc) ∧ w'.cell? ⟨w.heap.size, 9, none⟩ = some (.slice reA e.length r9c) ∧ Below W.heap.size W w') :=
        fun w' h' => ⟨(h'.cell (p := ⟨w.heap.size, _, none⟩) z0).trans f8, (h'.cell (p := ⟨w.heap.size, _, none⟩) z0).trans f9, h'⟩
      have HY' : Hid (∀ W', Below W.heap.size W W' → ∀ c, Calls Tryz.prog 59 #[.slice ryA y.length c] W' fun z w' => z = .returned (.int .i64 (u : Nat)) ∧ Below W.heap.size W w') := fun W' h' c =>
        (HY.out W' (b0.trans (h'.mono b0.size)) c).mono fun z w' hz => ⟨hz.1, h'.trans (hz.2.mono h'.size)⟩
      have HE' : Hid (∀ W', Below W.heap.size W W' → ∀ c, Calls Tryz.prog 59 #[.slice reA e.length c] W' fun z w' => z = .returned (.int .i64 (v : Nat)) ∧ Below W.heap.size W w') := fun W' h' c =>
        (HE.out W' (b0.trans (h'.mono b0.size)) c).mono fun z w' hz => ⟨hz.1, h'.trans (hz.2.mono h'.size)⟩
      have HB := Lib.hid b0
      clear tn b0 z0 HY HE
      go_region_held3 (fun w' => w'.cell? ⟨w.heap.size, 8, none⟩ = some (.slice ryA y.length ryc) ∧ w'.cell? ⟨w.heap.size, 9, none⟩ = some (.slice reA e.length r9c) ∧ Below W.heap.size W w')
        (first | exact hkeep.out _ b6 | exact hkeep.out _ b5 | exact ⟨f8, f9, Below.refl _ _⟩ | exact ⟨f8, f9, (Below.refl _ _).drew⟩ | fail)
        (first
          | (go_at_call 59; refine (HE'.out w5 b5 _).mono ?_; rintro z w6 ⟨rfl, b6⟩)
          | (go_at_call 59; refine (HY'.out W.drew ((Below.refl _ _).drew) _).mono ?_; rintro z w5 ⟨rfl, b5⟩)
          | fail)
      go_wp2_with fail
      all_goals
        go_ret
        refine ⟨ret_i ?_, HB.out.trans (b6.mono HB.out.size)⟩
        rw [HV.out, IntWalk.i64_in _ (by omega)]
        first | done | omega
    by_cases h5 : rk = 5
    · have HV : Hid (costF (d + 1) (.node rk rt a b y e) = 1 + 8 * costL (costF d) y 0) := by show costF _ _ = _; rw [costF, if_neg h4, if_pos h5]
      obtain ⟨u, hu⟩ : ∃ u, u = costL (costF d) y 0 := ⟨_, rfl⟩
      rw [← hu] at HY HV hy0
      clear hu
      have t4 : ((rk : Int) == 4) = false := by simp; omega
      have t5 : ((rk : Int) == 5) = true := by simp; omega
      have HZ := Lib.hid (HY.out _ b0 ryc)
      have HB := Lib.hid b0
      clear h4 h5 HY HE tn b0 z0
      go_enter Tryz.func79, Tryz.ntmps79
      go_wp2_with fail
      refine HZ.out.mono ?_
      rintro z w6 ⟨rfl, b6⟩
      go_wp2_with fail
      go_ret
      refine ⟨ret_i ?_, HB.out.trans (b6.mono HB.out.size)⟩
      rw [HV.out]
      first | omega | (rw [IntWalk.i64_in _ (by omega)]; first | done | omega) | (rw [IntWalk.i64_in _ (by omega), IntWalk.i64_in _ (by omega)]; first | done | omega)
    by_cases h7 : rk = 7
    · have HV : Hid (costF (d + 1) (.node rk rt a b y e) = 1 + costL (costF d) y 0 + costL (costF d) e 0) := by show costF _ _ = _; rw [costF, if_neg h4, if_neg h5, if_pos h7]
      obtain ⟨u, hu⟩ : ∃ u, u = costL (costF d) y 0 := ⟨_, rfl⟩
      obtain ⟨v, hv⟩ : ∃ v, v = costL (costF d) e 0 := ⟨_, rfl⟩
      rw [← hu] at HY HV hy0
      rw [← hv] at HE HV he0
      clear hu hv
      have t4 : ((rk : Int) == 4) = false := by simp; omega
      have t5 : ((rk : Int) == 5) = false := by simp; omega
      have t7 : ((rk : Int) == 7) = true := by simp; omega
      clear h4 h5 h7
      go_enter Tryz.func79, Tryz.ntmps79
      go_upto_region 7 with fail
      obtain ⟨W, hW⟩ : ∃ W, W = w.alloc (.cells #[.int .u8 rk, .int .i64 rt, .int .u8 rao, .int .i64 ran, .slice raA ral rac, .int .u8 rbo, .int .i64 rbn, .slice rbA rbl rbc, .slice ryA y.length ryc, .slice reA e.length r9c] 43) := ⟨_, rfl⟩
      rw [← hW] at b0 z0 tn ⊢
      clear hW f0
      have f8 := tn.c8
      have f9 := tn.c9
      dsimp only at f8 f9
      have hkeep : Hid (∀ w' : World, Below W.heap.size W w' → w'.cell? ⟨w.heap.size, 8, none⟩ = some (.slice ryA y.length ryc) ∧ w'.cell? ⟨w.heap.size, 9, none⟩ = some (.slice reA e.length r9c) ∧ Below W.heap.size W w') :=
        fun w' h' => ⟨(h'.cell (p := ⟨w.heap.size, _, none⟩) z0).trans f8, (h'.cell (p := ⟨w.heap.size, _, none⟩) z0).trans f9, h'⟩
      have HY' : Hid (∀ W', Below W.heap.size W W' → ∀ c, Calls Tryz.prog 59 #[.slice ryA y.length c] W' fun z w' => z = .returned (.int .i64 (u : Nat)) ∧ Below W.heap.size W w') := fun W' h' c =>
        (HY.out W' (b0.trans (h'.mono b0.size)) c).mono fun z w' hz => ⟨hz.1, h'.trans (hz.2.mono h'.size)⟩
      have HE' : Hid (∀ W', Below W.heap.size W W' → ∀ c, Calls Tryz.prog 59 #[.slice reA e.length c] W' fun z w' => z = .returned (.int .i64 (v : Nat)) ∧ Below W.heap.size W w') := fun W' h' c =>
        (HE.out W' (b0.trans (h'.mono b0.size)) c).mono fun z w' hz => ⟨hz.1, h'.trans (hz.2.mono h'.size)⟩
      have HB := Lib.hid b0
      clear tn b0 z0 HY HE
      go_region_held3 (fun w' => w'.cell? ⟨w.heap.size, 8, none⟩ = some (.slice ryA y.length ryc) ∧ w'.cell? ⟨w.heap.size, 9, none⟩ = some (.slice reA e.length r9c) ∧ Below W.heap.size W w')
        (first | exact hkeep.out _ b6 | exact hkeep.out _ b5 | exact ⟨f8, f9, Below.refl _ _⟩ | exact ⟨f8, f9, (Below.refl _ _).drew⟩ | fail)
        (first
          | (go_at_call 59; refine (HE'.out w5 b5 _).mono ?_; rintro z w6 ⟨rfl, b6⟩)
          | (go_at_call 59; refine (HY'.out W.drew ((Below.refl _ _).drew) _).mono ?_; rintro z w5 ⟨rfl, b5⟩)
          | fail)
      go_wp2_with fail
      go_ret
      refine ⟨ret_i ?_, HB.out.trans (b6.mono HB.out.size)⟩
      rw [HV.out]
      rw [IntWalk.i64_in (1 + (u : Int)) (by omega), IntWalk.i64_in _ (by omega)]
      first | done | omega
    have HV : Hid (costF (d + 1) (.node rk rt a b y e) = 1) := by show costF _ _ = _; rw [costF, if_neg h4, if_neg h5, if_neg h7]
    have t4 : ((rk : Int) == 4) = false := by simp; omega
    have t5 : ((rk : Int) == 5) = false := by simp; omega
    have t7 : ((rk : Int) == 7) = false := by simp; omega
    have HB := Lib.hid b0
    clear h4 h5 h7 HY HE tn b0 z0
    go_enter Tryz.func79, Tryz.ntmps79
    go_wp2_with fail
    go_ret
    exact ⟨by rw [HV.out]; rfl, HB.out⟩
theorem cost_of (d : Nat) (A : Option Addr) (c : Nat) (tx : List St) (lo hi : Nat) (w : World) (hk : SKids w lo hi d A tx) (hhi : hi ≤ w.heap.size) (hl : tx.length ≤ 9223372036854775807) :
    Calls Tryz.prog 59 #[.slice A tx.length c] w fun e w' => e = .returned (.int .i64 (costL (costF d) tx 0 : Nat)) ∧ Below w.heap.size w w' := cost_block d (cost_any d) A c tx lo hi w hk hhi hl
end Go.Proofs.YthdcdffdpdoeoaaGreatDoor
/-
  CONTRACT OF PACKAGE code's May: whether a transaction may be, the n-th one of its thread; the memory that was there stays as it was. Conditions: the table of what each Kind asks lies as its initialiser lays it; as they stand.
-/
namespace Go.Proofs.YthdcdffdpdoeoaaGreatDoor
set_option maxRecDepth 100000
open Go.RowKit
set_option linter.unusedVariables false
set_option maxRecDepth 100000 in
theorem codemay_of (D : Nat) (A : Option Addr) (c : Nat) (tx : List St) (n : Int) (n0 : -9223372036854775808 ≤ n) (n1 : n < 9223372036854775808) (lo hi : Nat) (w : World) (hkd : Kd w) (hk : SKids w lo hi D A tx) (hhi : hi ≤ w.heap.size) (hl : tx.length ≤ 9223372036854775807) (hD : D ≤ 4611686018427387903) :
    Calls Tryz.prog 34 #[.slice A tx.length c, .int .i64 n] w fun e w' => e = .returned (.bool (mayF D tx n)) ∧ Below w.heap.size w w' := by
  by_cases l0 : 0 ≤ n
  · by_cases l6 : n < 6
    · have HS := Lib.hid (sound_of D A c tx n n0 n1 lo hi w hkd hk hhi hl hD)
      have HC := Lib.hid (fun (W' : World) (h' : Below w.heap.size w W') => cost_of D A c tx lo hi W' (hk.below h' hhi) (by have := h'.size; omega) hl)
      cases hs : soundF D tx n with
      | false =>
        rw [hs] at HS
        have HV : Hid (mayF D tx n = false) := by show _ = _; unfold mayF; rw [hs]; simp
        clear HC hs hk hkd
        go_enter Tryz.func34, Tryz.ntmps34
        go_wp2_with fail
        refine HS.out.mono ?_
        rintro e w5 ⟨rfl, b5⟩
        go_wp2_with fail
        go_ret
        exact ⟨by rw [HV.out]; rfl, b5⟩
      | true =>
        rw [hs] at HS
        obtain ⟨u, hu⟩ : ∃ u, u = costL (costF D) tx 0 := ⟨_, rfl⟩
        have HV : Hid (mayF D tx n = decide ((u : Int) ≤ 2000)) := by
          show _ = _
          unfold mayF
          rw [hs, decide_eq_true l0, decide_eq_true l6, ← hu, show decide (u ≤ 2000) = decide ((u : Int) ≤ 2000) from decide_eq_decide.2 (by omega)]
          rfl
        rw [← hu] at HC
        clear hs hk hkd hu
        go_enter Tryz.func34, Tryz.ntmps34
        go_wp2_with fail
        refine HS.out.mono ?_
        rintro e w5 ⟨rfl, b5⟩
        go_wp2_with fail
        refine (HC.out w5 b5).mono ?_
        rintro e w6 ⟨rfl, b6⟩
        go_wp2_with fail
        go_ret
        exact ⟨by rw [HV.out]; rfl, b5.trans (b6.mono b5.size)⟩
    · have HV : Hid (mayF D tx n = false) := by show _ = _; unfold mayF; rw [decide_eq_false l6]; simp
      have l9 : decide (n < 6) = false := decide_eq_false l6
      clear hk hkd l6
      go_enter Tryz.func34, Tryz.ntmps34
      go_wp2_with fail
      go_ret
      exact ⟨by rw [HV.out]; rfl, Below.refl _ _⟩
  · have HV : Hid (mayF D tx n = false) := by show _ = _; unfold mayF; rw [decide_eq_false l0]; simp
    have l9 : decide (0 ≤ n) = false := decide_eq_false l0
    clear hk hkd l0
    go_enter Tryz.func34, Tryz.ntmps34
    go_wp2_with fail
    go_ret
    exact ⟨by rw [HV.out]; rfl, Below.refl _ _⟩
end Go.Proofs.YthdcdffdpdoeoaaGreatDoor
