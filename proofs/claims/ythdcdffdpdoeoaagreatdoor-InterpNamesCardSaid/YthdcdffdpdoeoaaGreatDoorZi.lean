/-
  SEVERAL TEXTS IN ONE (a claim has sixty files at most): Li, Lj, Lk: the head of each stands ahead of it. No condition but theirs.
-/
import Derived.Test.YthdcdffdpdoeoaaGreatDoorLf
import Derived.Test.YthdcdffdpdoeoaaGreatDoorLc
import Derived.Test.YthdcdffdpdoeoaaGreatDoorLh
/-
  CONTRACTS OF slices.Backward's iterator at levels, and of package buffer's levels: all levels, the highest one first; or a beginning of them, if a round says no more. A round must keep what lay below n₀, and all blocks of cells from m on. Conditions: as they stand.
-/
namespace Go.Proofs.YthdcdffdpdoeoaaGreatDoor
set_option maxRecDepth 100000
open Go.RowKit Go.Shelf
set_option linter.unusedVariables false
attribute [local go_sem] Oper.semAt_some
/-- The levels L lie at A, in a block below hi. -/
def Lies8 {α : Type} (pt : α → Option Nat) (w : World) (hi : Nat) (A : Option Addr) (L : List α) : Prop := ∀ j (h : j < L.length), ∃ p, A = some p ∧ p.block < hi ∧ w.cell? (p.add j) = some (.map (pt L[j]))
theorem ad8_block (a : Addr) (n : Nat) : (a.add n).block = a.block := by unfold Addr.add; split <;> rfl
theorem Lies8.below {α : Type} {pt : α → Option Nat} {w w' : World} {hi B : Nat} {A : Option Addr} {L : List α} (h : Lies8 pt w hi A L) (hb : Below B w w') (hB : hi ≤ B) : Lies8 pt w' hi A L := fun j hj => by
  obtain ⟨p, rfl, m, c⟩ := h j hj
  exact ⟨p, rfl, m, (hb.cell (by rw [ad8_block]; omega)).trans c⟩
def encB {α : Type} (pt : α → Option Nat) (x : Nat × α) : Array Value := #[.int .i64 x.1, .map (pt x.2)]
def encP {α : Type} (pt : α → Option Nat) (x : α) : Array Value := #[.map (pt x)]
set_option maxRecDepth 100000 in
set_option maxHeartbeats 4000000 in
theorem back1_in {α : Type} (pt : α → Option Nat) (F : Fence) (n : Nat) (h44 : F.fn 80) (hro : F.round = none) (hn : 1 ≤ n) (l Bs n₀ m c : Nat) (A : Option Addr) (L : List α) (J Jx : List (Nat × α) → World → Prop) (B : Nat)
    (hY : ∀ pre x W, J pre W → pre.length < L.length → YieldAt F (n - 1) Tryz.prog l (encB pt x) W fun e W' => (e = .returned (.bool true) ∧ J (pre ++ [x]) W' ∧ Kb8 n₀ m W W' ∧ KeepsFrom B W W') ∨ (e = .returned (.bool false) ∧ Jx (pre ++ [x]) W' ∧ KeepsFrom B W W'))
    (W : World) (hBs : _root_.Go.Boxed W Bs 104 (.slice A L.length c)) (hm : m ≤ Bs) (hL : Lies8 pt W n₀ A L) (hl : L.length ≤ 1000000) (h0 : J [] W) :
    CallsIn F n Tryz.prog 80 #[.func (.yield l) #[] #[], .pointer (some ⟨Bs, 0, none⟩)] W fun e W' => (∃ v, e = .returned v) ∧
      ((∃ ys, ys.map Prod.snd = L.reverse ∧ J ys W') ∨ (∃ pre, pre.map Prod.snd <+: L.reverse ∧ Jx pre W')) := by
  have HY := Lib.hid hY
  have HL := Lib.hid hL
  have HB := Lib.hid hBs
  have cB := hBs.cell
  have hl1 : (L.length : Int) - 1 < 9223372036854775808 := by omega
  have H0 : Hid (J [] W) := h0
  have HS : Hid (([] : List (Nat × α)).map Prod.snd = (L.drop L.length).reverse) := by show _ = _; simp
  clear hY hL hBs h0
  refine callsIn_of_wp Tryz.func80 rfl h44 ?_ hro
  simp only [Tryz.ntmps80, List.size_toArray, List.length_cons, List.length_nil, Nat.reduceAdd, Nat.reduceSub, Array.replicate_succ, Array.replicate_zero, List.push_toArray, List.append_toArray, List.nil_append, List.cons_append]
  gi_wp2
  gi_loopw [3] (fun i wr => ∃ (k : Nat) (ys : List (Nat × α)), k ≤ L.length ∧ i = .int .i64 ((k : Int) - 1) ∧ Hid (ys.map Prod.snd = (L.drop k).reverse) ∧ Hid (J ys wr) ∧ Hid (Kb8 n₀ m W wr)) (fun i _ => (intOf i + 1).toNat)
  case atStart => exact ⟨L.length, [], Nat.le_refl _, by go_num, HS, H0, Kb8.refl _ _ _⟩
  case round =>
    obtain ⟨k, ys, hk, rfl, hys, hJ1, hkc⟩ := hrel
    cases k with
    | zero =>
      have i1 : ¬ ((0 : Int) ≤ ((0 : Nat) : Int) - 1) := by omega
      gi_wp2
      go_end0
      exact ⟨⟨_, rfl⟩, .inl ⟨ys, by simpa using hys.out, hJ1.out⟩⟩
    | succ k =>
      obtain ⟨p, rfl, mb, cp⟩ := HL.out k hk
      have cp1 : wr.cell? (p.add k) = some (.map (pt L[k])) := (hkc.out.low.cell (by rw [ad8_block]; exact mb)).trans cp
      have cB1 : wr.cell? ⟨Bs, 0, none⟩ = some (.slice (some p) L.length c) := (show _root_.Go.Boxed wr Bs 104 _ from hkc.out.high Bs _ _ _ hm HB.out).cell
      have e1 : (((k + 1 : Nat) : Int) - 1) = (k : Int) := by omega
      rw [e1]
      have hlen := congrArg List.length hys.out
      simp only [List.length_map, List.length_reverse, List.length_drop] at hlen
      have hdrop : L.drop k = L[k] :: L.drop (k + 1) := List.drop_eq_getElem_cons hk
      have hsn : (ys ++ [(k, L[k])]).map Prod.snd = (L.drop k).reverse := by rw [List.map_append, hys.out, hdrop, List.reverse_cons]; rfl
      obtain ⟨fn, tmps, assign, body, hy, hR⟩ := HY.out ys (k, L[k]) wr hJ1.out (by omega)
      dsimp only [encB] at hy
      have HS2 := Lib.hid hsn
      have i2 : (0 : Int) ≤ (k : Int) := by omega
      have i3 : (k : Int) < (L.length : Int) := by omega
      have i4 : (k : Int) ≤ 1000000 := by omega
      obtain ⟨q, hq⟩ : ∃ q, q = L[k] := ⟨_, rfl⟩
      rw [← hq] at cp1 hy hR HS2
      have HL3 : Hid ((L.drop k).reverse <+: L.reverse) := by
        show _ <+: _
        rw [List.reverse_prefix]
        exact List.drop_suffix k L
      clear cp mb e1 hlen hdrop hsn hq hys hJ1
      gi_wp2
      refine hR.mono ?_
      rintro e W3 (⟨rfl, hJ3, hk3, _⟩ | ⟨rfl, hJx3, _⟩)
      · have HJ3 := Lib.hid hJ3
        have HK3 := Lib.hid (hkc.out.trans hk3)
        clear hJ3 hk3 hkc cp1 cB1
        gi_wp2
        go_roundw
        case rel => exact ⟨k, _, by omega, by go_num, HS2, HJ3, HK3⟩
        case measure => first | (simp [intOf]; done) | (simp [intOf]; omega)
      · have HJ3 := Lib.hid hJx3
        clear hJx3
        gi_wp2
        refine bodyPost_ret (results_none rfl _ _ _) rfl ?_
        exact ⟨⟨_, rfl⟩, .inr ⟨_, by rw [HS2.out]; exact HL3.out, HJ3.out⟩⟩
set_option maxHeartbeats 1000000 in
theorem backward_in (F : Fence) (n : Nat) (h : F.fn 63) (hro : F.round = none) (A : Option Addr) (k c : Nat) (w : World) :
    CallsIn F n Tryz.prog 63 #[.slice A k c] w fun e w' => e = .returned (.func (.func 80) #[] #[.pointer (some ⟨w.heap.size, 0, none⟩)]) ∧ w' = w.alloc (.cells #[.slice A k c] 104) := by
  refine callsIn_of_wp Tryz.func63 rfl h ?_ hro
  simp only [Tryz.ntmps63, List.size_toArray, List.length_cons, List.length_nil, Nat.reduceAdd, Nat.reduceSub, Array.replicate_succ, Array.replicate_zero, List.push_toArray, List.append_toArray, List.nil_append, List.cons_append]
  gi_wp2
  go_ret
  exact ⟨rfl, rfl⟩
theorem back_seq {α : Type} (pt : α → Option Nat) (F : Fence) (n : Nat) (h44 : F.fn 80) (hro : F.round = none) (hn : 1 ≤ n) (Bs n₀ m c : Nat) (A : Option Addr) (L : List α) (w : World) (hBs : _root_.Go.Boxed w Bs 104 (.slice A L.length c)) (hm : m ≤ Bs) (hn₀ : n₀ ≤ w.heap.size) (hL : Lies8 pt w n₀ A L) (hl : L.length ≤ 1000000) :
    SeqO F n Tryz.prog 80 #[.pointer (some ⟨Bs, 0, none⟩)] (encB pt) (Kb8 n₀ m) (fun ys => ys.map Prod.snd = L.reverse) (fun ys => ys.map Prod.snd <+: L.reverse) L.length w := fun l J Jx W hW _ _ hY h0 =>
  back1_in pt F n h44 hro hn l Bs n₀ m c A L J Jx W.heap.size hY W ((hW.block _ hBs.lt).trans hBs) hm (hL.below (hW.mono hn₀) (Nat.le_refl _)) hl h0
set_option maxHeartbeats 1000000 in
theorem levels_in (F : Fence) (n : Nat) (h : F.fn 42) (hro : F.round = none) (q : Option Addr) (w : World) :
    CallsIn F n Tryz.prog 42 #[.pointer q] w fun e w' => e = .returned (.func (.func 62) #[] #[.pointer (some ⟨w.heap.size, 0, none⟩)]) ∧ w' = w.alloc (.cells #[.pointer q] 60) := by
  refine callsIn_of_wp Tryz.func42 rfl h ?_ hro
  simp only [Tryz.ntmps42, List.size_toArray, List.length_cons, List.length_nil, Nat.reduceAdd, Nat.reduceSub, Array.replicate_succ, Array.replicate_zero, List.push_toArray, List.append_toArray, List.nil_append, List.cons_append]
  gi_wp2
  go_ret
  exact ⟨rfl, rfl⟩
end Go.Proofs.YthdcdffdpdoeoaaGreatDoor
/-
  CONTRACT OF PACKAGE buffer's levels' closure: all levels, the highest one first; or a beginning of them, if a round says no more; of nil: none. (A loop over an iterator whose body calls the outer loop's round.) Conditions: as they stand.
-/
namespace Go.Proofs.YthdcdffdpdoeoaaGreatDoor
set_option maxRecDepth 100000
open Go.RowKit Go.Shelf
set_option linter.unusedVariables false
attribute [local go_sem] Oper.semAt_some
/-- A region that leaves just this. -/
def atOnceP (W : World) (b : Act) : Exit → Act → World → Prop
  | .normal, a, w' => a = b ∧ w' = W
  | _, _, _ => False
/-- How the region with the first call of yield is left. -/
def askP {α : Type} (pt : α → Option Nat) (l Bq q by_ : Nat) (p0 : α) (n₀ m : Nat) (W : World) (J Jx : List α → World → Prop) : Exit → Act → World → Prop
  | .normal, a, w' => ∃ r nr : Bool, nr = !r ∧ a = ⟨#[.func (.yield l) #[] #[], .pointer (some ⟨Bq, 0, none⟩), .pointer (some ⟨by_, 0, none⟩), undef, undef, .pointer (some ⟨q, 0, none⟩), .bool false, .bool false, .func (.yield l) #[] #[], .pointer (some ⟨q, 0, none⟩), .pointer (some ⟨q, 0, none⟩), .pointer (some ⟨q, 0, none⟩), .map (pt p0), .bool r, .bool nr, .bool nr, undef, undef, undef, undef, undef, undef, undef, undef, undef, undef, undef], []⟩ ∧ ((r = true ∧ J [p0] w' ∧ Kb8 n₀ m W w') ∨ (r = false ∧ Jx [p0] w'))
  | _, _, _ => False
set_option maxRecDepth 100000 in
set_option maxHeartbeats 4000000 in
theorem lev1_in {α : Type} (pt : α → Option Nat) (n : Nat) (hn : 3 ≤ n) (l Bq n₀ m c q : Nat) (p0 : α) (A : Option Addr) (L : List α) (J Jx : List α → World → Prop)
    (W : World)
    (hY : ∀ pre x W1, J pre W1 → pre.length < L.length + 1 → YieldAt Fence.wide (n - 1) Tryz.prog l (encP pt x) W1 fun e W' => (e = .returned (.bool true) ∧ J (pre ++ [x]) W' ∧ Kb8 n₀ m W1 W' ∧ KeepsFrom W.heap.size W1 W') ∨ (e = .returned (.bool false) ∧ Jx (pre ++ [x]) W' ∧ KeepsFrom W.heap.size W1 W'))
    (hJ : OwnFrom W.heap.size J) (hJx : OwnFrom W.heap.size Jx) (hBq : _root_.Go.Boxed W Bq 60 (.pointer (some ⟨q, 0, none⟩))) (hm : m ≤ Bq) (hq : q < n₀) (hn₀ : n₀ ≤ W.heap.size) (hmW : m ≤ W.heap.size)
    (hc0 : W.cell? ⟨q, 0, none⟩ = some (.map (pt p0))) (hc1 : W.cell? ⟨q, 1, none⟩ = some (.slice A L.length c)) (hL : Lies8 pt W n₀ A L) (hl : L.length ≤ 1000000) (h0 : J [] W) :
    CallsIn Fence.wide n Tryz.prog 62 #[.func (.yield l) #[] #[], .pointer (some ⟨Bq, 0, none⟩)] W fun e W' => (∃ v, e = .returned v) ∧
      ((∃ ys, ys = p0 :: L.reverse ∧ J ys W') ∨ (∃ pre, pre <+: p0 :: L.reverse ∧ Jx pre W')) := by
  have cB := hBq.cell
  have h1 : 1 ≤ n := by omega
  refine callsIn_of_wp_marks Tryz.func62 rfl trivial ?_ rfl
  simp only [Tryz.ntmps62, List.size_toArray, List.length_cons, List.length_nil, Nat.reduceAdd, Nat.reduceSub, Array.replicate_succ, Array.replicate_zero, List.push_toArray, List.append_toArray, List.nil_append, List.cons_append]
  have hW1 : Below W.heap.size W (W.alloc (.cells #[.func (.yield l) #[] #[]] 109)) := (Below.refl _ _).alloc (Nat.le_refl _) _
  have k0 := (hW1.cell (p := ⟨q, 0, none⟩) (by show q < _; omega)).trans hc0
  have kB := (hW1.cell (p := ⟨Bq, 0, none⟩) hBq.lt).trans cB
  obtain ⟨fn, tmps, assign, body, hy, hR⟩ := (hY [] p0 _ (own_drew hJ (hJ.alloc (.cells #[.func (.yield l) #[] #[]] 109) h0)) (by simp)).mono (R' := fun e w' => ∃ r : Bool, e = .returned (.bool r) ∧ Hid ((r = true ∧ J [p0] w' ∧ Kb8 n₀ m (W.alloc (.cells #[.func (.yield l) #[] #[]] 109)).drew w') ∨ (r = false ∧ Jx [p0] w'))) (by
    rintro e w' (⟨he, h1, h2, _⟩ | ⟨he, h1, _⟩)
    · exact ⟨true, he, .inl ⟨rfl, h1, h2⟩⟩
    · exact ⟨false, he, .inr ⟨rfl, h1⟩⟩)
  dsimp only [encP] at hy
  gi_wp2
  refine wpIn_mono (Q := askP pt l Bq q W.heap.size p0 n₀ m (W.alloc (.cells #[.func (.yield l) #[] #[]] 109)).drew J Jx) ?reg ?_
  case reg =>
    gi_region_with ((try refine ⟨fun _ => by omega, ?_⟩); refine hR.mono ?_; rintro e w' ⟨r, rfl, hr⟩)
    all_goals exact ⟨r, !r, rfl, rfl, hr.out⟩
  rintro e a W2 hp
  cases e with
  | ret => exact hp.elim
  | exit id => exact hp.elim
  | goto tt => exact hp.elim
  | panic ch => exact hp.elim
  | outgrown => exact hp.elim
  | normal =>
    obtain ⟨r, nr, hnr, rfl, (⟨rfl, hJ2, hk2⟩ | ⟨rfl, hx2⟩)⟩ := hp
    · obtain rfl : nr = false := hnr
      have hf40 : Fence.wide.fn 63 := trivial
      have hkW : Kb8 n₀ m W W2 := ((Kb8.alloc _ hn₀).trans Kb8.drew).trans hk2
      have c1 : W2.cell? ⟨q, 1, none⟩ = some (.slice A L.length c) := (hkW.low.cell (p := ⟨q, 1, none⟩) hq).trans hc1
      have bq : _root_.Go.Boxed W2 Bq 60 (.pointer (some ⟨q, 0, none⟩)) := box_kc hkW hm hBq
      have by_ : _root_.Go.Boxed W2 W.heap.size 109 (.func (.yield l) #[] #[]) := box_kc hk2 hmW (World.alloc_heap_new W _)
      have hL2 : Lies8 pt W2 n₀ A L := hL.below hkW.low (Nat.le_refl _)
      have cq := bq.cell
      have hz2 : W.heap.size + 1 ≤ W2.heap.size := by have := hk2.low.size; simp at this; omega
      clear hR hy k0 kB hW1 cB hc0 hc1 hL
      gi_wp2_with (gi_at_call 63; refine (backward_in Fence.wide (n - 1) trivial rfl _ _ _ _).mono ?_; rintro e w' ⟨rfl, rfl⟩)
      have hK3 : Kb8 n₀ m W2 (W2.alloc (.cells #[.slice A L.length c] 104)) := Kb8.alloc _ (by omega)
      have hb3 : _root_.Go.Boxed (W2.alloc (.cells #[.slice A L.length c] 104)) W2.heap.size 104 (.slice A L.length c) := World.alloc_heap_new W2 _
      have hJ3 : J [p0] (W2.alloc (.cells #[.slice A L.length c] 104)) := hJ.alloc _ hJ2
      have by3 := box_kc hK3 hmW by_
      have hL3 := hL2.below hK3.low (Nat.le_refl _)
      have hz3 : (W2.alloc (.cells #[.slice A L.length c] 104)).heap.size = W2.heap.size + 1 := by simp
      obtain ⟨W3, hW3⟩ : ∃ W3, W3 = W2.alloc (.cells #[.slice A L.length c] 104) := ⟨_, rfl⟩
      rw [← hW3] at hK3 hb3 hJ3 by3 hL3 hz3 ⊢
      clear hW3
      refine loopO (F := Fence.wide) rfl h1 (gf := 80) (lb := #[.pointer (some ⟨W2.heap.size, 0, none⟩)]) rfl trivial (enters_of Tryz.func80 (by kernel_rfl) rfl)
        (back_seq pt Fence.wide (n - 1) trivial rfl (by omega) W2.heap.size n₀ m c A L W3 hb3 (by omega) (by omega) hL3 hl) (by omega) (fun _ => rfl)
        (fun pre W' => J (p0 :: pre.map Prod.snd) W' ∧ _root_.Go.Boxed W' W.heap.size 109 (.func (.yield l) #[] #[])) (fun pre W' => Jx (p0 :: pre.map Prod.snd) W')
        (OwnFrom.and (own_up (own_along hJ (fun pre : List (Nat × α) => p0 :: pre.map Prod.snd)) (by omega)) (own_box _ _ (fun _ => .func (.yield l) #[] #[]) _)) (own_up (own_along hJx (fun pre : List (Nat × α) => p0 :: pre.map Prod.snd)) (by omega)) ⟨hJ3, by3⟩
        (fun x => { tmps := #[.func (.yield l) #[] #[], .pointer (some ⟨Bq, 0, none⟩), .pointer (some ⟨W.heap.size, 0, none⟩), undef, .map (pt x.2), .pointer (some ⟨q, 0, none⟩), .bool false, .bool false, .func (.yield l) #[] #[], .pointer (some ⟨q, 0, none⟩), .pointer (some ⟨q, 0, none⟩), .pointer (some ⟨q, 0, none⟩), .map (pt p0), .bool true, .bool false, .bool false, .pointer (some ⟨q, 0, none⟩), .pointer (some ⟨q, 0, none⟩), .pointer (some ⟨q, 1, none⟩), .slice A L.length c, .func (.func 80) #[] #[.pointer (some ⟨W2.heap.size, 0, none⟩)], .int .i64 x.1, .map (pt x.2), undef, undef, undef, undef], defers := [] }) ?assign ?body ?done ?stop
      case assign =>
        intro l2 x W4 K hK
        unfold encB
        gi_wp2
        exact hK
      case body =>
        rintro l2 pre x W4 ⟨hj, hb⟩ hlen
        have cb := hb.cell
        obtain ⟨fn5, tmps5, assign5, body5, hy5, hR5⟩ := yield_within l2 (yield_free rfl (n - 1 - 1 - 1) (hY (p0 :: pre.map Prod.snd) x.2 W4 hj (by simp; omega)))
        dsimp only [encP] at hy5
        gi_wp2_with (first
          | ((try refine ⟨fun _ => by omega, ?_⟩); refine hR5.mono ?_; clear hR5; rintro e W5 (⟨rfl, hJ5, hk5, hf5⟩ | ⟨rfl, hx5, hf5⟩)))
        · exact ⟨keeps_up hf5 (by omega), hk5, by rw [List.map_append]; exact hJ5, box_kc hk5 hmW hb⟩
        · refine ⟨keeps_up hf5 (by omega), ?_⟩
          show Jx _ _
          rw [List.map_append]
          exact hx5
      case done =>
        rintro xs W4 hxs ⟨hj, _⟩ hK
        gi_wp2
        refine ⟨by simp, .inl ⟨_, _, rfl, run_takeDeferred hK, ?_⟩⟩
        refine ⟨_, results_none rfl _ _ _, ⟨_, rfl⟩, .inl ⟨_, rfl, ?_⟩⟩
        have hj' := (own_up hJ (by omega : W.heap.size ≤ W3.heap.size)).putObj (.deferred none) hj (Nat.le_refl _) hK rfl
        rwa [hxs] at hj'
      case stop =>
        rintro pre W4 hsp hj hK
        gi_wp2
        refine ⟨by simp, .inl ⟨_, _, rfl, run_takeDeferred hK, ?_⟩⟩
        refine ⟨_, results_none rfl _ _ _, ⟨_, rfl⟩, .inr ⟨_, ?_, (own_up hJx (by omega : W.heap.size ≤ W3.heap.size)).putObj (.deferred none) hj (Nat.le_refl _) hK rfl⟩⟩
        exact (List.prefix_cons_inj p0).2 hsp
    · obtain rfl : nr = true := hnr
      gi_wp2
      exact ⟨_, results_none rfl _ _ _, ⟨_, rfl⟩, .inr ⟨[p0], List.prefix_cons_inj p0 |>.2 (List.nil_prefix), hx2⟩⟩
set_option maxRecDepth 100000 in
set_option maxHeartbeats 4000000 in
theorem lev1_nil {α : Type} (n : Nat) (l Bq : Nat) (J Jx : List α → World → Prop) (W : World) (hJ : OwnFrom W.heap.size J) (hBq : _root_.Go.Boxed W Bq 60 (.pointer none)) (h0 : J [] W) :
    CallsIn Fence.wide n Tryz.prog 62 #[.func (.yield l) #[] #[], .pointer (some ⟨Bq, 0, none⟩)] W fun e W' => (∃ v, e = .returned v) ∧ J [] W' := by
  have cB := hBq.cell
  refine callsIn_of_wp_marks Tryz.func62 rfl trivial ?_ rfl
  simp only [Tryz.ntmps62, List.size_toArray, List.length_cons, List.length_nil, Nat.reduceAdd, Nat.reduceSub, Array.replicate_succ, Array.replicate_zero, List.push_toArray, List.append_toArray, List.nil_append, List.cons_append]
  have hW1 : Below W.heap.size W (W.alloc (.cells #[.func (.yield l) #[] #[]] 109)) := (Below.refl _ _).alloc (Nat.le_refl _) _
  have kB := (hW1.cell (p := ⟨Bq, 0, none⟩) hBq.lt).trans cB
  have hJ1 : J [] (W.alloc (.cells #[.func (.yield l) #[] #[]] 109)).drew := own_drew hJ (hJ.alloc _ h0)
  gi_wp2
  refine wpIn_mono (Q := atOnceP (W.alloc (.cells #[.func (.yield l) #[] #[]] 109)).drew ⟨#[.func (.yield l) #[] #[], .pointer (some ⟨Bq, 0, none⟩), .pointer (some ⟨W.heap.size, 0, none⟩), undef, undef, .pointer none, .bool true, .bool true, undef, undef, undef, undef, undef, undef, undef, .bool true, undef, undef, undef, undef, undef, undef, undef, undef, undef, undef, undef], []⟩) ?reg ?_
  case reg =>
    gi_region_with (refine ⟨(fun _ h => (by cases h)), ?_⟩)
    all_goals exact ⟨rfl, rfl⟩
  rintro e a w' hp
  cases e with
  | ret => exact hp.elim
  | exit id => exact hp.elim
  | goto tt => exact hp.elim
  | panic ch => exact hp.elim
  | outgrown => exact hp.elim
  | normal =>
  obtain ⟨rfl, rfl⟩ := hp
  gi_wp2
  exact ⟨_, results_none rfl _ _ _, ⟨_, rfl⟩, hJ1⟩
/-- What levels hands back, of a buffer. -/
theorem lev_seq {α : Type} (pt : α → Option Nat) (n : Nat) (hn : 3 ≤ n) (Bq n₀ m c q : Nat) (p0 : α) (A : Option Addr) (L : List α) (w : World) (hBq : _root_.Go.Boxed w Bq 60 (.pointer (some ⟨q, 0, none⟩))) (hm : m ≤ Bq) (hq : q < n₀) (hn₀ : n₀ ≤ w.heap.size)
    (hc0 : w.cell? ⟨q, 0, none⟩ = some (.map (pt p0))) (hc1 : w.cell? ⟨q, 1, none⟩ = some (.slice A L.length c)) (hL : Lies8 pt w n₀ A L) (hl : L.length ≤ 1000000) :
    SeqO Fence.wide n Tryz.prog 62 #[.pointer (some ⟨Bq, 0, none⟩)] (encP pt) (Kb8 n₀ m) (fun ys => ys = p0 :: L.reverse) (fun ys => ys <+: p0 :: L.reverse) (L.length + 1) w := fun l J Jx W hW hJ hJx hY h0 =>
  lev1_in pt n hn l Bq n₀ m c q p0 A L J Jx W hY hJ hJx ((hW.block _ hBq.lt).trans hBq) hm hq (Nat.le_trans hn₀ hW.size) (by have := hBq.lt; have := hW.size; omega) ((hW.cell (p := ⟨q, 0, none⟩) (by show q < _; omega)).trans hc0) ((hW.cell (p := ⟨q, 1, none⟩) (by show q < _; omega)).trans hc1) (hL.below (hW.mono hn₀) (Nat.le_refl _)) hl h0
/-- .. of nil. -/
theorem lev_seq_nil {α : Type} (pt : α → Option Nat) (n : Nat) (Bq n₀ m : Nat) (w : World) (hBq : _root_.Go.Boxed w Bq 60 (.pointer none)) :
    SeqO Fence.wide n Tryz.prog 62 #[.pointer (some ⟨Bq, 0, none⟩)] (encP pt) (Kb8 n₀ m) (fun ys => ys = []) (fun _ => False) 0 w := fun l J Jx W hW hJ hJx hY h0 =>
  (lev1_nil n l Bq J Jx W hJ ((hW.block _ hBq.lt).trans hBq) h0).mono fun e W' ⟨hv, hj⟩ => ⟨hv, .inl ⟨[], rfl, hj⟩⟩
end Go.Proofs.YthdcdffdpdoeoaaGreatDoor
/-
  CONTRACT OF PACKAGE buffer's Get: what is written of a variable, and whether anything is; nothing that lay has turned. Conditions: as they stand.
-/
namespace Go.Proofs.YthdcdffdpdoeoaaGreatDoor
set_option maxRecDepth 100000
open Go.RowKit Go.Maps Go.Shelf
set_option linter.unusedVariables false
attribute [local go_sem] Oper.semAt_some
/-- A level as it lies in w, below n₀: what was put, the last ones last. -/
structure Lev (w : World) (n₀ : Nat) where
  p : Option Nat
  row : List Pr
  at_ : LO w p row.length (rowSays row)
  low : ∀ b, p = some b → b < n₀
  small : row.length ≤ 1000
  ok : ∀ e ∈ row, wfI e.1 ∧ wfI e.2
theorem Lev.on {w W : World} {n₀ : Nat} (x : Lev w n₀) (h : Below n₀ w W) : LO W x.p x.row.length (rowSays x.row) := x.at_.of_block fun b e => h.block b (x.low b e)
/-- Looked up in a level, with ok. -/
theorem look8 {w W : World} {n₀ : Nat} (x : Lev w n₀) (h : Below n₀ w W) {v : Int} (hv : wfI v) : ∃ c : Int, (Instr.lookup 89 (.map x.p) (.int .i64 v) true).run Tryz.prog W = .ok (.tuple #[.int .i64 c, .bool (rowSays x.row v).isSome]) W ∧ ((rowSays x.row v).isSome = true → rowSays x.row v = some c) := by
  have hkey := keyOf_int_mk (P := Tryz.prog) Tryz.underlying3 hv
  rcases x.on h with ⟨hp, hf⟩ | ⟨b, hp, D, ho, hf⟩
  · rw [hp, hf v hv]
    exact ⟨0, look_nil (w := W) true keyed8 Tryz.underlying89 (zero8 _) hkey, fun h => by cases h⟩
  · rw [hp, ← hf v hv, lk_isSome]
    obtain ⟨u, ps, hrun, hu⟩ := ho.look_ok keyed8 Tryz.underlying89 (zero8 W) (plainElem_int Tryz.underlying2 (by decide)) hkey
    obtain ⟨c, rfl, hc, hw⟩ := plainElem_int_inv Tryz.underlying2 hu
    refine ⟨c, hrun, fun hh => ?_⟩
    rw [lk_at (c := c) (congrArg Prod.fst hc), if_pos hh]
def rowsOf {w : World} {n₀ : Nat} (l : List (Lev w n₀)) : List (List Pr) := l.map Lev.row
theorem says_none {w : World} {n₀ : Nat} {l : List (Lev w n₀)} {v : Int} (h : ∀ e ∈ l, rowSays e.row v = none) : saysL (rowsOf l) v = none := by
  induction l with
  | nil => rfl
  | cons a r ih => rw [rowsOf, List.map_cons, saysL_cons, h a (by simp), Option.none_or]; exact ih fun e he => h e (List.mem_cons_of_mem _ he)
theorem says_first {w : World} {n₀ : Nat} {pre : List (Lev w n₀)} {x : Lev w n₀} {l : List (Lev w n₀)} {v c : Int} (hp : pre ++ [x] <+: l) (h : ∀ e ∈ pre, rowSays e.row v = none) (hx : rowSays x.row v = some c) : saysL (rowsOf l) v = some c := by
  obtain ⟨r, rfl⟩ := hp
  induction pre with
  | nil => rw [rowsOf, List.nil_append, List.singleton_append, List.map_cons, saysL_cons, hx]; rfl
  | cons a s ih => rw [rowsOf, List.cons_append, List.cons_append, List.map_cons, saysL_cons, h a (by simp), Option.none_or]; exact ih fun e he => h e (List.mem_cons_of_mem _ he)
set_option maxRecDepth 100000 in
set_option maxHeartbeats 4000000 in
theorem get_in (n : Nat) (hn : 5 ≤ n) (q c : Nat) (A : Option Addr) (w : World) (p0 : Lev w w.heap.size) (L : List (Lev w w.heap.size)) (v : Int) (hv : wfI v) (hq : q < w.heap.size)
    (hc0 : w.cell? ⟨q, 0, none⟩ = some (.map p0.p)) (hc1 : w.cell? ⟨q, 1, none⟩ = some (.slice A L.length c)) (hL : Lies8 Lev.p w w.heap.size A L) (hl : L.length ≤ 1000000) :
    CallsIn Fence.wide n Tryz.prog 25 #[.pointer (some ⟨q, 0, none⟩), .int .i64 v] w fun e w' => e = .returned (got (saysL (rowsOf (p0 :: L.reverse)) v)) ∧ Below w.heap.size w w' := by
  have h1 : 1 ≤ n := by omega
  have hfl : Fence.wide.fn 42 := trivial
  obtain ⟨res, hres⟩ : ∃ res, res = saysL (rowsOf (p0 :: L.reverse)) v := ⟨_, rfl⟩
  rw [← hres]
  refine callsIn_of_wp_marks Tryz.func25 rfl trivial ?_ rfl
  simp only [Tryz.ntmps25, List.size_toArray, List.length_cons, List.length_nil, Nat.reduceAdd, Nat.reduceSub, Array.replicate_succ, Array.replicate_zero, List.push_toArray, List.append_toArray, List.nil_append, List.cons_append]
  gi_wp2_with (gi_at_call 42; refine (levels_in Fence.wide (n - 1) trivial rfl _ _).mono ?_; rintro e w' ⟨rfl, rfl⟩)
  obtain ⟨W0, hW0⟩ : ∃ W0, W0 = (((w.alloc (.cells #[.int .i64 v] 3)).alloc (.cells #[.int .i64 0] 2)).alloc (.cells #[.bool false] 4)).alloc (.cells #[.pointer (some ⟨q, 0, none⟩)] 60) := ⟨_, rfl⟩
  have hz0 : W0.heap.size = w.heap.size + 4 := by rw [hW0]; simp
  have hB0 : Below w.heap.size w W0 := by rw [hW0]; exact ((((Below.refl _ w).alloc (Nat.le_refl _) _).alloc (by simp) _).alloc (by simp; omega) _).alloc (by simp; omega) _
  have bV : _root_.Go.Boxed W0 w.heap.size 3 (.int .i64 v) := by rw [hW0]; exact (((_root_.Go.Boxed.new w _ _).alloc _).alloc _).alloc _
  have bX : _root_.Go.Boxed W0 (w.heap.size + 1) 2 (.int .i64 0) := by
    rw [hW0]
    have := ((_root_.Go.Boxed.new (w.alloc (.cells #[.int .i64 v] 3)) 2 (.int .i64 0)).alloc (.cells #[.bool false] 4)).alloc (.cells #[.pointer (some ⟨q, 0, none⟩)] 60)
    rwa [World.size_alloc] at this
  have bI : _root_.Go.Boxed W0 (w.heap.size + 2) 4 (.bool false) := by
    rw [hW0]
    have := (_root_.Go.Boxed.new ((w.alloc (.cells #[.int .i64 v] 3)).alloc (.cells #[.int .i64 0] 2)) 4 (.bool false)).alloc (.cells #[.pointer (some ⟨q, 0, none⟩)] 60)
    rwa [World.size_alloc, World.size_alloc] at this
  have bQ : _root_.Go.Boxed W0 (w.heap.size + 3) 60 (.pointer (some ⟨q, 0, none⟩)) := by
    rw [hW0]
    have := _root_.Go.Boxed.new (((w.alloc (.cells #[.int .i64 v] 3)).alloc (.cells #[.int .i64 0] 2)).alloc (.cells #[.bool false] 4)) 60 (.pointer (some ⟨q, 0, none⟩))
    rwa [World.size_alloc, World.size_alloc, World.size_alloc] at this
  have d0 := (hB0.cell (p := ⟨q, 0, none⟩) hq).trans hc0
  have d1 := (hB0.cell (p := ⟨q, 1, none⟩) hq).trans hc1
  have hL0 := hL.below hB0 (Nat.le_refl _)
  rw [← hW0]
  clear hW0
  refine loopO (F := Fence.wide) rfl h1 (gf := 62) (lb := #[.pointer (some ⟨w.heap.size + 3, 0, none⟩)]) rfl trivial (enters_of Tryz.func62 (by kernel_rfl) rfl)
    (lev_seq (α := Lev w w.heap.size) Lev.p (n - 1) (by omega) (w.heap.size + 3) w.heap.size (w.heap.size + 3) c q p0 A L W0 bQ (Nat.le_refl _) hq (by omega) d0 d1 hL0 hl) (by omega) (fun _ => rfl)
    (fun pre W => ((∀ e ∈ pre, rowSays e.row v = none) ∧ _root_.Go.Boxed W w.heap.size 3 (.int .i64 v) ∧ _root_.Go.Boxed W (w.heap.size + 1) 2 (.int .i64 0) ∧ _root_.Go.Boxed W (w.heap.size + 2) 4 (.bool false)) ∧ Below w.heap.size w W)
    (fun pre W => (∃ y x u, pre = y ++ [x] ∧ (∀ e ∈ y, rowSays e.row v = none) ∧ rowSays x.row v = some u ∧ _root_.Go.Boxed W (w.heap.size + 1) 2 (.int .i64 u) ∧ _root_.Go.Boxed W (w.heap.size + 2) 4 (.bool true)) ∧ Below w.heap.size w W)
    (OwnFrom.and (fun s A B row hs hg hr => ⟨hs.1, own_box _ _ (fun _ => .int .i64 v) W0.heap.size s A B row hs.2.1 hg hr, own_box _ _ (fun _ => .int .i64 0) W0.heap.size s A B row hs.2.2.1 hg hr, own_box _ _ (fun _ => .bool false) W0.heap.size s A B row hs.2.2.2 hg hr⟩) (ownFrom_below (Nat.le_refl _) (by omega)))
    (OwnFrom.and (fun s A B row hs hg hr => by
      obtain ⟨y, x, u, e1, e2, e3, b1, b2⟩ := hs
      exact ⟨y, x, u, e1, e2, e3, own_box _ _ (fun _ : Unit => .int .i64 u) W0.heap.size () A B row b1 hg hr, own_box _ _ (fun _ : Unit => .bool true) W0.heap.size () A B row b2 hg hr⟩) (ownFrom_below (Nat.le_refl _) (by omega)))
    ⟨⟨by simp, bV, bX, bI⟩, hB0⟩
    (fun x => { tmps := #[.pointer (some ⟨q, 0, none⟩), .int .i64 v, undef, .pointer (some ⟨w.heap.size, 0, none⟩), .pointer (some ⟨w.heap.size + 1, 0, none⟩), .pointer (some ⟨w.heap.size + 1 + 1, 0, none⟩), .map x.p, undef, undef, .pointer (some ⟨q, 0, none⟩), .func (.func 62) #[] #[.pointer (some ⟨w.heap.size + 1 + 1 + 1, 0, none⟩)], .map x.p, undef, undef, undef, undef, undef, undef, undef, undef], defers := [] }) ?assign ?body ?done ?stop
  case assign =>
    intro l2 x W4 K hK
    unfold encP
    gi_wp2
    exact hK
  case body =>
    rintro l2 pre x W4 ⟨⟨hp, b1, b2, b3⟩, hB4⟩ hlen
    obtain ⟨u, hrun, hu⟩ := look8 x hB4 hv
    have c1 := b1.cell
    have c2 := b2.cell
    have c3 := b3.cell
    have f2 := b2.frozen
    have f3 := b3.frozen
    gi_wp2
    · rename_i hh
      refine ⟨((KeepsOthers.setCell _ _ _).from _).trans ((KeepsOthers.setCell _ _ _).from _), ⟨pre, x, u, rfl, hp, hu hh, (b2.set _).other (by omega) _, (b3.other (by omega) _).set _⟩, (hB4.setCell (p := ⟨w.heap.size + 1, 0, none⟩) (by simp) _).setCell (p := ⟨w.heap.size + 1 + 1, 0, none⟩) (by show _ ≤ w.heap.size + 1 + 1; omega) _⟩
    · rename_i hh
      refine ⟨KeepsFrom.refl _ _, Kb8.refl _ _ _, ⟨fun e he => ?_, b1, b2, b3⟩, hB4⟩
      rcases List.mem_append.1 he with he | he
      · exact hp e he
      · rw [List.mem_singleton.1 he]
        simpa using hh
  case done =>
    rintro xs W4 hxs ⟨⟨hp, b1, b2, b3⟩, hB4⟩ hK
    have c2 := b2.cell
    have c3 := b3.cell
    have f2 := b2.frozen
    have f3 := b3.frozen
    gi_wp2
    have hr0 : res = none := by rw [hres, ← hxs]; exact says_none hp
    subst hr0
    have hK9 : ((W4.setCell ⟨w.heap.size + 1, 0, none⟩ (.int .i64 0)).setCell ⟨w.heap.size + 1 + 1, 0, none⟩ (.bool false)).heap[W0.heap.size]? = some (.deferred (some [])) := (KeepsOthers.setCell _ _ _).same _ _ ((KeepsOthers.setCell _ _ _).same _ _ hK rfl) rfl
    have hB9 : Below w.heap.size w ((W4.setCell ⟨w.heap.size + 1, 0, none⟩ (.int .i64 0)).setCell ⟨w.heap.size + 1 + 1, 0, none⟩ (.bool false)) := (hB4.setCell (p := ⟨w.heap.size + 1, 0, none⟩) (by simp) _).setCell (p := ⟨w.heap.size + 1 + 1, 0, none⟩) (by show _ ≤ w.heap.size + 1 + 1; omega) _
    have q1 := cell_kept (((b2.set (.int .i64 0)).other (by omega : w.heap.size + 1 ≠ w.heap.size + 1 + 1) (.bool false)).cell) (grownBy_putObj' _ W0.heap.size (.deferred none)) (fun r e => by cases e; exact ⟨_, hK9, rfl⟩)
    have q2 := cell_kept (((b3.other (by omega : w.heap.size + 2 ≠ w.heap.size + 1) (.int .i64 0)).set (.bool false)).cell) (grownBy_putObj' _ W0.heap.size (.deferred none)) (fun r e => by cases e; exact ⟨_, hK9, rfl⟩)
    refine ⟨by simp, .inl ⟨_, _, rfl, run_takeDeferred hK9, ?_⟩⟩
    refine ⟨got none, ?_, rfl, hB9.trans (belowK_b (w := w) (Nat.le_refl _) _ _ _ _ (by omega) hK9 rfl rfl)⟩
    simp [results, Tryz.f25, go_sem, q1, q2, got]
  case stop =>
    rintro pre W4 hsp ⟨⟨y, x, u, rfl, e2, e3, b1, b2⟩, hB4⟩ hK
    gi_wp2
    have hr0 : res = some u := by rw [hres]; exact says_first hsp e2 e3
    subst hr0
    have q1 := cell_kept b1.cell (grownBy_putObj' _ W0.heap.size (.deferred none)) (fun r e => by cases e; exact ⟨_, hK, rfl⟩)
    have q2 := cell_kept b2.cell (grownBy_putObj' _ W0.heap.size (.deferred none)) (fun r e => by cases e; exact ⟨_, hK, rfl⟩)
    refine ⟨by simp, .inl ⟨_, _, rfl, run_takeDeferred hK, ?_⟩⟩
    refine ⟨got (some u), ?_, rfl, hB4.trans (belowK_b (w := w) (Nat.le_refl _) _ _ _ _ (by omega) hK rfl rfl)⟩
    simp [results, Tryz.f25, go_sem, q1, q2, got]
set_option maxRecDepth 100000 in
set_option maxHeartbeats 4000000 in
theorem get_nil_in (n : Nat) (hn : 5 ≤ n) (w : World) (v : Int) :
    CallsIn Fence.wide n Tryz.prog 25 #[.pointer none, .int .i64 v] w fun e w' => e = .returned (got none) ∧ Below w.heap.size w w' := by
  have h1 : 1 ≤ n := by omega
  have hfl : Fence.wide.fn 42 := trivial
  refine callsIn_of_wp_marks Tryz.func25 rfl trivial ?_ rfl
  simp only [Tryz.ntmps25, List.size_toArray, List.length_cons, List.length_nil, Nat.reduceAdd, Nat.reduceSub, Array.replicate_succ, Array.replicate_zero, List.push_toArray, List.append_toArray, List.nil_append, List.cons_append]
  gi_wp2_with (gi_at_call 42; refine (levels_in Fence.wide (n - 1) trivial rfl _ _).mono ?_; rintro e w' ⟨rfl, rfl⟩)
  obtain ⟨W0, hW0⟩ : ∃ W0, W0 = (((w.alloc (.cells #[.int .i64 v] 3)).alloc (.cells #[.int .i64 0] 2)).alloc (.cells #[.bool false] 4)).alloc (.cells #[.pointer none] 60) := ⟨_, rfl⟩
  have hz0 : W0.heap.size = w.heap.size + 4 := by rw [hW0]; simp
  have hB0 : Below w.heap.size w W0 := by rw [hW0]; exact ((((Below.refl _ w).alloc (Nat.le_refl _) _).alloc (by simp) _).alloc (by simp; omega) _).alloc (by simp; omega) _
  have bX : _root_.Go.Boxed W0 (w.heap.size + 1) 2 (.int .i64 0) := by
    rw [hW0]
    have := ((_root_.Go.Boxed.new (w.alloc (.cells #[.int .i64 v] 3)) 2 (.int .i64 0)).alloc (.cells #[.bool false] 4)).alloc (.cells #[.pointer none] 60)
    rwa [World.size_alloc] at this
  have bI : _root_.Go.Boxed W0 (w.heap.size + 2) 4 (.bool false) := by
    rw [hW0]
    have := (_root_.Go.Boxed.new ((w.alloc (.cells #[.int .i64 v] 3)).alloc (.cells #[.int .i64 0] 2)) 4 (.bool false)).alloc (.cells #[.pointer none] 60)
    rwa [World.size_alloc, World.size_alloc] at this
  have bQ : _root_.Go.Boxed W0 (w.heap.size + 3) 60 (.pointer none) := by
    rw [hW0]
    have := _root_.Go.Boxed.new (((w.alloc (.cells #[.int .i64 v] 3)).alloc (.cells #[.int .i64 0] 2)).alloc (.cells #[.bool false] 4)) 60 (.pointer none)
    rwa [World.size_alloc, World.size_alloc, World.size_alloc] at this
  rw [← hW0]
  clear hW0
  refine loopO (α := Option Nat) (F := Fence.wide) rfl h1 (gf := 62) (lb := #[.pointer (some ⟨w.heap.size + 3, 0, none⟩)]) rfl trivial (enters_of Tryz.func62 (by kernel_rfl) rfl)
    (lev_seq_nil (α := Option Nat) id (n - 1) (w.heap.size + 3) w.heap.size (w.heap.size + 3) W0 bQ) (by omega) (fun _ => rfl)
    (fun pre W => (_root_.Go.Boxed W (w.heap.size + 1) 2 (.int .i64 0) ∧ _root_.Go.Boxed W (w.heap.size + 2) 4 (.bool false)) ∧ Below w.heap.size w W)
    (fun pre W => False)
    (OwnFrom.and (fun s A B row hs hg hr => ⟨own_box _ _ (fun _ => .int .i64 0) W0.heap.size s A B row hs.1 hg hr, own_box _ _ (fun _ => .bool false) W0.heap.size s A B row hs.2 hg hr⟩) (ownFrom_below (Nat.le_refl _) (by omega)))
    (fun s A B row hs hg hr => hs)
    ⟨⟨bX, bI⟩, hB0⟩
    (fun x => { tmps := #[.pointer none, .int .i64 v, undef, .pointer (some ⟨w.heap.size, 0, none⟩), .pointer (some ⟨w.heap.size + 1, 0, none⟩), .pointer (some ⟨w.heap.size + 1 + 1, 0, none⟩), .map x, undef, undef, .pointer none, .func (.func 62) #[] #[.pointer (some ⟨w.heap.size + 1 + 1 + 1, 0, none⟩)], .map x, undef, undef, undef, undef, undef, undef, undef, undef], defers := [] }) ?assign ?body ?done ?stop
  case assign =>
    intro l2 x W4 K hK
    unfold encP
    gi_wp2
    exact hK
  case body =>
    rintro l2 pre x W4 _ hlen
    exact absurd hlen (Nat.not_lt_zero _)
  case done =>
    rintro xs W4 hxs ⟨⟨b2, b3⟩, hB4⟩ hK
    have c2 := b2.cell
    have c3 := b3.cell
    have f2 := b2.frozen
    have f3 := b3.frozen
    gi_wp2
    have hK9 : ((W4.setCell ⟨w.heap.size + 1, 0, none⟩ (.int .i64 0)).setCell ⟨w.heap.size + 1 + 1, 0, none⟩ (.bool false)).heap[W0.heap.size]? = some (.deferred (some [])) := (KeepsOthers.setCell _ _ _).same _ _ ((KeepsOthers.setCell _ _ _).same _ _ hK rfl) rfl
    have hB9 : Below w.heap.size w ((W4.setCell ⟨w.heap.size + 1, 0, none⟩ (.int .i64 0)).setCell ⟨w.heap.size + 1 + 1, 0, none⟩ (.bool false)) := (hB4.setCell (p := ⟨w.heap.size + 1, 0, none⟩) (by simp) _).setCell (p := ⟨w.heap.size + 1 + 1, 0, none⟩) (by show _ ≤ w.heap.size + 1 + 1; omega) _
    have q1 := cell_kept (((b2.set (.int .i64 0)).other (by omega : w.heap.size + 1 ≠ w.heap.size + 1 + 1) (.bool false)).cell) (grownBy_putObj' _ W0.heap.size (.deferred none)) (fun r e => by cases e; exact ⟨_, hK9, rfl⟩)
    have q2 := cell_kept (((b3.other (by omega : w.heap.size + 2 ≠ w.heap.size + 1) (.int .i64 0)).set (.bool false)).cell) (grownBy_putObj' _ W0.heap.size (.deferred none)) (fun r e => by cases e; exact ⟨_, hK9, rfl⟩)
    refine ⟨by simp, .inl ⟨_, _, rfl, run_takeDeferred hK9, ?_⟩⟩
    refine ⟨got none, ?_, rfl, hB9.trans (belowK_b (w := w) (Nat.le_refl _) _ _ _ _ (by omega) hK9 rfl rfl)⟩
    simp [results, Tryz.f25, go_sem, q1, q2, got]
  case stop =>
    rintro pre W4 hsp h hK
    exact h.elim
end Go.Proofs.YthdcdffdpdoeoaaGreatDoor
