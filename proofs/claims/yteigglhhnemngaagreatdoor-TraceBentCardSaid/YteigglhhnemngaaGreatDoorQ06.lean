/-
  SEVERAL TEXTS IN ONE (a claim has sixty files at most): Wj, Ws: the head of each stands ahead of it. No condition but theirs.
-/
import Derived.Test.YteigglhhnemngaaGreatDoorQ05
import Derived.RangeFuncKeeps
import Derived.Laws.StructEq
import Derived.Test.YteigglhhnemngaaGreatDoorLift
import Derived.Test.YteigglhhnemngaaGreatDoorCards
import Derived.Test.YteigglhhnemngaaGreatDoorTie
import Derived.Lib.LaidTab
import Derived.LaidMore
import Derived.Stop.Joined
import Derived.SevenTiedAt
namespace Go.Proofs.YteigglhhnemngaaGreatDoor
set_option maxRecDepth 100000
open Go.RowKit Go.Shelf
set_option linter.unusedVariables false
attribute [local go_sem] Oper.semAt_some
theorem drewN_belowW (w : World) (n : Nat) : Below w.heap.size w (w.drewN n) := ⟨rfl, rfl, rfl, Nat.le_refl _, fun _ _ => rfl⟩
theorem numR_set (c : Nat → Int) {i : Nat} (h : i < 5) (y : Int) : (numR c).setIfInBounds i (.int .i64 y) = numR (put5 c i y) := by
  match i, h with
  | 0, _ | 1, _ | 2, _ | 3, _ | 4, _ => simp [numR, put5]
  | i + 5, h => exact absurd h (by omega)
theorem numR_get (c : Nat → Int) {i : Nat} (h : i < 5) : (numR c)[i]? = some (.int .i64 (c i)) := by
  match i, h with
  | 0, _ | 1, _ | 2, _ | 3, _ | 4, _ => rfl
  | i + 5, h => exact absurd h (by omega)
theorem fnP_enters {k : Nat} (hk : k < 5) : ∀ args w, (callFunc (fnP k) args).run Tryz.prog w = .ok (.enter (fnP k) args) w := by
  match k, hk with
  | 0, _ => exact enters_of Tryz.func131 (by kernel_rfl) rfl
  | 1, _ => exact enters_of Tryz.func133 (by kernel_rfl) rfl
  | 2, _ => exact enters_of Tryz.func132 (by kernel_rfl) rfl
  | 3, _ => exact enters_of Tryz.func134 (by kernel_rfl) rfl
  | 4, _ => exact enters_of Tryz.func135 (by kernel_rfl) rfl
  | k + 5, h => exact absurd h (by omega)
theorem row_own {g : Nat} {cs : Array Value} {t : TypeId} {B : Nat} {W W' : World} {row : Option Nat} (hs : W.heap[g]? = some (.cells cs t (0, 0))) (hg : W.grownBy W' row) (hr : ∀ r, row = some r → B ≤ r ∧ ∃ o : Obj, W.heap[r]? = some o ∧ o.isCells = false) : W'.heap[g]? = some (.cells cs t (0, 0)) := by
  refine (hg.block _ (Array.getElem?_eq_some_iff.1 hs).1 (fun e => ?_)).trans hs
  obtain ⟨o, ho, hc⟩ := (hr _ e.symm).2
  rw [hs] at ho
  injection ho with ho
  rw [← ho] at hc
  cases hc
set_option maxRecDepth 100000 in
set_option maxHeartbeats 8000000 in
theorem may_loopF (n : Nat) (hn : 8 ≤ n) (e : Ev) (ok : EvOk e) (T V S : Int) (h : sizesB T V S = true) (h2 : (decide (0 ≤ e.th) && decide (e.th ≤ T - 1)) = true) (h3 : 1 ≤ e.kd ∧ e.kd ≤ 13) (h4 : fullB e.kd e.why = false) (w : World) (he : Ek w) :
    CallsIn Fence.wide n Tryz.prog 86 #[evV e, .int .i64 T, .int .i64 V, .int .i64 S] w fun r w' => r = .returned (.bool (zeroO (scanP (partsK e.kd.toNat V S) (numC e)))) ∧ Below w.heap.size w w' := by
  have h1 : 1 ≤ n := by omega
  obtain ⟨res, hres⟩ : ∃ res, res = zeroO (scanP (partsK e.kd.toNat V S) (numC e)) := ⟨_, rfl⟩
  rw [← hres]
  have H1 := Lib.hid (fun w1 => callsIn_wide (n := n - 1).2 (sizes_any T V S w1))
  have H2 := Lib.hid (fun w1 => callsIn_wide (n := n - 1).2 (within_any e.th 0 (T - 1) w1))
  have H4 := Lib.hid (fun w1 => callsIn_wide (n := n - 1).2 (full_any e w1))
  have H5 := Lib.hid (fun w1 => callsIn_wide (n := n - 1).2 (of_any e ok w1))
  rw [h] at H1
  rw [h2] at H2
  have hs := sizes_iff h
  have t1 : 1 ≤ T := by omega
  have t2 : T ≤ 6 := by omega
  obtain ⟨v1, v2⟩ := hs.2.1
  obtain ⟨s1, s2'⟩ := hs.2.2
  have s2 : S ≤ 32 := by omega
  obtain ⟨k, hk⟩ : ∃ k : Nat, e.kd = k := ⟨e.kd.toNat, by omega⟩
  have hk2 : e.kd.toNat = k := by omega
  rw [hk2] at hres
  obtain ⟨b0, hb⟩ : ∃ b0, b0 = bsW (nmL k) := ⟨_, rfl⟩
  have hbe : b0.toList.isEmpty = false := by rw [hb]; exact nm_ne (by omega) (by omega)
  have H3 : Hid (∀ w1, Below w.heap.size w w1 → CallsIn Fence.wide (n - 1) Tryz.prog 114 #[.int .u8 k] w1 fun r w' => r = .returned (.string b0) ∧ w1 = w') := fun w1 bb => by
    have := name_any k (by omega) w1 (he.below bb)
    rw [show nmV k = .string b0 by unfold nmV; rw [hb]] at this
    exact callsIn_wide.2 this
  have hk13 : k ≤ 13 := by omega
  have fS : Fence.wide.fn 112 := trivial
  have fW : Fence.wide.fn 113 := trivial
  have fN : Fence.wide.fn 114 := trivial
  have fF : Fence.wide.fn 115 := trivial
  have fO : Fence.wide.fn 116 := trivial
  have fP : Fence.wide.fn 117 := trivial
  obtain ⟨c, hc⟩ : ∃ c, c = numC e := ⟨_, rfl⟩
  rw [← hc] at hres H5
  rw [h4] at H4
  clear h h2 hs h3 hb he ok s2' hk2 hc h4
  unfold numV at H5
  unfold evV at H4 H5 ⊢
  obtain ⟨kd, th, tx, pl, ve, xe, why⟩ := e
  simp only at *
  subst hk
  refine callsIn_of_wp_marks Tryz.func86 rfl trivial ?_ rfl
  simp only [Tryz.ntmps86, List.size_toArray, List.length_cons, List.length_nil, Nat.reduceAdd, Nat.reduceSub, Array.replicate_succ, Array.replicate_zero, List.push_toArray, List.append_toArray, List.nil_append, List.cons_append]
  gi_wp2_with fail
  refine (H1.out _).mono ?_
  rintro _ w1 ⟨rfl, rfl⟩
  gi_wp2_with fail
  refine (H2.out _).mono ?_
  rintro _ w1 ⟨rfl, rfl⟩
  gi_wp2_with fail
  refine (H3.out _ (by go_grown)).mono ?_
  rintro _ w1 ⟨rfl, rfl⟩
  gi_wp2_with fail
  refine (H4.out _).mono ?_
  rintro _ w1 ⟨rfl, b1⟩
  have a0 : w1.heap[w.heap.size]? = some (.cells #[.int .u8 k, .int .i64 th, .int .i64 tx, .int .i64 pl, .int .i64 ve, .int .i64 xe, .int .u8 why] 50 (0, 0)) := (b1.block _ (by simp; omega)).trans (heap_alloc2_old w _ _)
  have a1 : ∀ (i : Nat) (u : Value), (#[.int .u8 k, .int .i64 th, .int .i64 tx, .int .i64 pl, .int .i64 ve, .int .i64 xe, .int .u8 why] : Array Value)[i]? = some u → w1.cell? ⟨w.heap.size, i, none⟩ = some u := fun i u hu => (cell_of_row w1 _ i _ _ _ a0).trans hu
  have e0 := a1 0 _ rfl
  have e1 := a1 1 _ rfl
  have e2 := a1 2 _ rfl
  have e3 := a1 3 _ rfl
  have e4 := a1 4 _ rfl
  have e5 := a1 5 _ rfl
  have e6 := a1 6 _ rfl
  clear a1 a0
  have r1 : _root_.Go.Boxed w1 (w.heap.size + 1) 4 (.bool false) := (b1.block _ (by simp)).trans (heap_alloc2_new w _ _)
  have B1 : Hid (Below w.heap.size w w1) := by
    refine Lib.hid (Below.trans (B := w.heap.size) ?_ (b1.mono (by simp; omega)))
    go_grown
  have R1 := Lib.hid r1
  clear b1 r1
  gi_wp2_with fail
  refine (H5.out _).mono ?_
  rintro _ w2 ⟨rfl, b2⟩
  have e0' := (b2.cell (there_blockW e0)).trans e0
  have hN := there_blockW e0'
  have R2 : Hid (_root_.Go.Boxed w2 (w.heap.size + 1) 4 (.bool false)) := (b2.block _ R1.out.lt).trans R1.out
  have hN1 : w.heap.size + 1 < w2.heap.size := R2.out.lt
  have B2 : Hid (Below w.heap.size w w2) := B1.out.trans (b2.mono B1.out.size)
  clear b2 e0 e1 e2 e3 e4 e5 e6 B1 R1 H1 H2 H3 H4 H5
  gi_wp2_with fail
  obtain ⟨W3, hW3⟩ : ∃ W3, W3 = w2.alloc (.cells #[.int .i64 (c 0), .int .i64 (c 1), .int .i64 (c 2), .int .i64 (c 3), .int .i64 (c 4)] 179) := ⟨_, rfl⟩
  obtain ⟨g, hg⟩ : ∃ g, g = w2.heap.size := ⟨_, rfl⟩
  have g3 : W3.heap[g]? = some (.cells (numR c) 179 (0, 0)) := by rw [hW3, hg]; exact World.alloc_heap_new w2 _
  have r3 : _root_.Go.Boxed W3 (w.heap.size + 1) 4 (.bool false) := by rw [hW3]; exact R2.out.alloc _
  have b3 : Below w.heap.size w W3 := by rw [hW3]; exact B2.out.alloc (by omega) _
  have hgN : w.heap.size + 2 ≤ g := by omega
  rw [← hW3, ← hg]
  clear hW3 hg e0' hN hN1 R2 B2
  refine (parts_call Fence.wide (n - 1) trivial rfl k V S W3).mono ?_
  rintro e w' ⟨rfl, rfl⟩
  gi_wp2_with fail
  obtain ⟨W0, hW0⟩ : ∃ W0, W0 = ((W3.alloc (.cells #[.int .u8 k] 5)).alloc (.cells #[.int .i64 V] 3)).alloc (.cells #[.int .i64 S] 3) := ⟨_, rfl⟩
  have hz0 : W0.heap.size = W3.heap.size + 3 := by rw [hW0]; simp
  have q3 : _root_.Go.Boxed W0 W3.heap.size 5 (.int .u8 k) := by rw [hW0]; exact ((_root_.Go.Boxed.new W3 _ _).alloc _).alloc _
  have q4 : _root_.Go.Boxed W0 (W3.heap.size + 1) 3 (.int .i64 V) := by
    rw [hW0]
    have := (_root_.Go.Boxed.new (W3.alloc (.cells #[.int .u8 k] 5)) 3 (.int .i64 V)).alloc (.cells #[.int .i64 S] 3)
    rwa [World.size_alloc] at this
  have q5 : _root_.Go.Boxed W0 (W3.heap.size + 1 + 1) 3 (.int .i64 S) := by
    rw [hW0]
    have := _root_.Go.Boxed.new ((W3.alloc (.cells #[.int .u8 k] 5)).alloc (.cells #[.int .i64 V] 3)) 3 (.int .i64 S)
    rwa [World.size_alloc, World.size_alloc] at this
  have k30 : Below W3.heap.size W3 W0 := by rw [hW0]; exact (((Below.refl _ W3).alloc (Nat.le_refl _) _).alloc (by simp) _).alloc (by simp; omega) _
  have g0 : W0.heap[g]? = some (.cells (numR c) 179 (0, 0)) := (k30.block g (Array.getElem?_eq_some_iff.1 g3).1).trans g3
  have r0 : _root_.Go.Boxed W0 (w.heap.size + 1) 4 (.bool false) := (k30.block _ r3.lt).trans r3
  have hB0 : Below w.heap.size w W0 := b3.trans (k30.mono b3.size)
  have hw0 : w.heap.size ≤ W0.heap.size := hB0.size
  rw [← hW0]
  clear hW0 k30 g3 r3 b3 hz0
  refine loopT (F := Fence.wide) (Kp := KT w.heap.size 186) KT.trans rfl h1 (gf := 130) (lb := #[.pointer (some ⟨W3.heap.size + 1 + 1, 0, none⟩), .pointer (some ⟨W3.heap.size + 1, 0, none⟩), .pointer (some ⟨W3.heap.size, 0, none⟩)]) rfl trivial (enters_of Tryz.func130 (by kernel_rfl) rfl)
    (n₀ := w.heap.size) (fun o o' hl h hc => KT.putObj o o' hl h hc) (parts_seq (n - 1) (by omega) W3.heap.size (W3.heap.size + 1) (W3.heap.size + 1 + 1) w.heap.size k (by omega) V S v1 v2 s1 s2 W0 hB0.size q3 q4 q5) hB0.size (fun _ => rfl)
    (fun pre W => ((∃ d, scanP pre c = some d ∧ W.heap[g]? = some (.cells (numR d) 179 (0, 0))) ∧ _root_.Go.Boxed W (w.heap.size + 1) 4 (.bool false)) ∧ Below w.heap.size w W)
    (fun pre W => (scanP pre c = none ∧ _root_.Go.Boxed W (w.heap.size + 1) 4 (.bool false)) ∧ Below w.heap.size w W)
    ?own ?ownX ⟨⟨⟨c, rfl, g0⟩, r0⟩, hB0⟩
    (fun x b => { tmps := #[.agg #[.int .u8 k, .int .i64 th, .int .i64 tx, .int .i64 pl, .int .i64 ve, .int .i64 xe, .int .u8 why], .int .i64 T, .int .i64 V, .int .i64 S, .pointer (some ⟨w.heap.size, 0, none⟩), undef, undef, undef, .pointer (some ⟨w.heap.size + 1, 0, none⟩), .pointer (some ⟨g, 0, none⟩), .pointer (some ⟨b, 0, none⟩), undef, .int .i64 T, .int .i64 V, .int .i64 S, .bool true, .bool false, .bool false, .pointer (some ⟨w.heap.size, 1, none⟩), .int .i64 th, .int .i64 T, .int .i64 (T - 1), .bool true, .bool false, .bool false, .bool false, .pointer (some ⟨w.heap.size, 0, none⟩), .int .u8 k, .string b0, .bool false, .bool false, .agg #[.int .u8 k, .int .i64 th, .int .i64 tx, .int .i64 pl, .int .i64 ve, .int .i64 xe, .int .u8 why], .bool false, .bool false, undef, undef, undef, .bool false, .agg #[.int .u8 k, .int .i64 th, .int .i64 tx, .int .i64 pl, .int .i64 ve, .int .i64 xe, .int .u8 why], .agg #[.int .i64 (c 0), .int .i64 (c 1), .int .i64 (c 2), .int .i64 (c 3), .int .i64 (c 4)], .pointer (some ⟨w.heap.size, 0, none⟩), .int .u8 k, .int .i64 V, .int .i64 S, .func (.func 130) #[] #[.pointer (some ⟨W3.heap.size + 1 + 1, 0, none⟩), .pointer (some ⟨W3.heap.size + 1, 0, none⟩), .pointer (some ⟨W3.heap.size, 0, none⟩)], partV x, undef, undef, undef, undef, undef, undef, undef, undef, undef, undef, undef, undef, undef, undef, undef, undef, undef], defers := [] })
    (fun pre x b W => (((∃ d, scanP pre c = some d ∧ W.heap[g]? = some (.cells (numR d) 179 (0, 0))) ∧ _root_.Go.Boxed W (w.heap.size + 1) 4 (.bool false)) ∧ Below w.heap.size w W) ∧ W.heap[b]? = some (.cells (partC x).toArray 186 (0, 0)))
    ?own1 ?assign ?body ?done ?stop
  case own =>
    refine OwnFrom.and (OwnFrom.and (fun s A B row hs hg hr => ?_) (fun s A B row hs hg hr => own_box _ _ (fun _ : Unit => .bool false) W0.heap.size () A B row hs hg hr)) (ownFrom_below (Nat.le_refl _) (by omega))
    obtain ⟨d, hd, hh⟩ := hs
    exact ⟨d, hd, row_own hh hg hr⟩
  case ownX => exact OwnFrom.and (OwnFrom.and (fun s A B row hs hg hr => hs) (fun s A B row hs hg hr => own_box _ _ (fun _ : Unit => .bool false) W0.heap.size () A B row hs hg hr)) (ownFrom_below (Nat.le_refl _) (by omega))
  case own1 =>
    refine OwnFrom.and (OwnFrom.and (OwnFrom.and (fun s A B row hs hg hr => ?_) (fun s A B row hs hg hr => own_box _ _ (fun _ : Unit => .bool false) W0.heap.size () A B row hs hg hr)) (ownFrom_below (Nat.le_refl _) (by omega))) (fun s A B row hs hg hr => row_own hs hg hr)
    obtain ⟨d, hd, hh⟩ := hs
    exact ⟨d, hd, row_own hh hg hr⟩
  case assign =>
    intro l2 pre x W4 K hi4 hsz4 hK
    have hK := Lib.hid hK
    have hi4 := Lib.hid hi4
    have st := fun (w : World) (a : Addr) (m : Mode) => run_store Tryz.prog w a (.func (.func (fnP x.wh)) #[] #[]) m rfl
    have hsz : w.heap.size ≤ W4.heap.size := hi4.out.2.size
    unfold encP partV
    gi_wp2
    refine hK.out W4.heap.size _ (KeepsFrom.of_grownBy (World.grownBy_alloc W4 _ none) (fun j e => by cases e)) (KT.alloc _ hsz) ⟨⟨⟨?_, hi4.out.1.2.alloc _⟩, hi4.out.2.alloc hsz _⟩, World.alloc_heap_new W4 _⟩
    obtain ⟨d, hd, hh⟩ := hi4.out.1.1
    exact ⟨d, hd, (heap_alloc_old W4 _ (Array.getElem?_eq_some_iff.1 hh).1).trans hh⟩
  case body =>
    rintro l2 pre x b W4 ⟨⟨⟨⟨d, hd, hg4⟩, r4⟩, hB4⟩, hbx⟩ hlen
    have hwh := x.wh.isLt
    obtain ⟨i, hi⟩ : ∃ i : Nat, i = x.wh := ⟨_, rfl⟩
    rw [← hi] at hwh
    have kc : ∀ (j : Nat) (u : Value), (partC x)[j]? = some u → W4.cell? ⟨b, j, none⟩ = some u := fun j u hu => (cell_of_row W4 b j _ _ _ hbx).trans (by rw [List.getElem?_toArray]; exact hu)
    have c0 := kc 0 _ rfl
    have c1 := kc 1 _ rfl
    have c2 := kc 2 _ rfl
    obtain ⟨fp, hfp⟩ : ∃ fp, fp = fnP x.wh := ⟨_, rfl⟩
    rw [← hfp] at c0
    have eg : ∀ args w, (callFunc fp args).run Tryz.prog w = .ok (.enter fp args) w := by rw [hfp]; exact fnP_enters x.wh.isLt
    have ffp : Fence.wide.fn fp := trivial
    have f64 : Fence.wide.fn 118 := trivial
    have M : Hid (∀ k, CallsIn (Fence.wide.inRound l2) k Tryz.prog fp #[.pointer (some ⟨g, 0, none⟩)] W4 fun e w' => e = .returned (.pointer (some ⟨g, i, none⟩)) ∧ W4 = w') := fun k => by
      rw [hfp, hi]
      exact CallsIn.inRound l2 (callsIn_wide.2 (meth_any x.wh x.wh.isLt g W4))
    have cg : W4.cell? ⟨g, i, none⟩ = some (.int .i64 (d i)) := (cell_of_row W4 g i _ _ _ hg4).trans (numR_get d hwh)
    obtain ⟨y, hy⟩ : ∃ y, y = d i := ⟨_, rfl⟩
    rw [← hy] at cg
    have fg : W4.frozen? ⟨g, i, none⟩ = false := frozen_of_row W4 g i _ _ hg4
    have HD : Fence.wide.depth.isSome = true → 1 ≤ n - 1 - 1 := fun h => by cases h
    obtain ⟨q, hq⟩ : ∃ q, q = inP x y := ⟨_, rfl⟩
    have Q1 : Hid (∀ k j : Nat, (Fence.wide.depth.isSome = true → 1 ≤ n - 1 - 1) ∧ CallsIn (Fence.wide.inRound l2) j Tryz.prog 118 #[.int .i64 y, .int .i64 x.lo, .int .i64 x.hi] (W4.drewN k) fun e w' => e = .returned (.bool q) ∧ w' = W4.drewN k) := fun k j => ⟨HD, CallsIn.inRound l2 (callsIn_wide.2 ((within64_any y x.lo x.hi (W4.drewN k)).mono fun e w' ⟨a, b⟩ => ⟨by rw [hq]; exact a, b.symm⟩))⟩
    have HSC : Hid (scanP (pre ++ [x]) c = if q = true then some (put5 d i 0) else none) := by
      show _ = _
      rw [scanP_snoc, hd]
      show (if inP x (d x.wh) = true then _ else _) = _
      rw [hq, hy, hi]
    have HR := Lib.hid r4
    have HG := Lib.hid hg4
    have HB := Lib.hid hB4
    have cr := r4.cell
    have fr := r4.frozen
    have HI := Lib.hid hwh
    clear hi hwh kc hfp hy hq hd hg4 r4 hB4 hbx
    gi_wp2_with fail
    refine ⟨HD, (M.out _).mono ?_⟩
    rintro _ w5 ⟨rfl, rfl⟩
    gi_wp2_with fail
    refine wpIn_region_quietR rfl (by kernel_rfl) (by kernel_rfl) (by kernel_rfl) ?_
    repeat (gi_big_quiet_step (exact ⟨(Q1.out 0 0).1, CallsIn.quiet_of_same (Q1.out _ _).2⟩))
    refine wpQuietIn_nil ?_
    intro _ hw'
    obtain ⟨nq, hw''⟩ := hw'
    subst hw''
    have hk : KeepsFrom W0.heap.size W4 (W4.drewN nq) := ⟨Nat.le_refl _, fun _ _ _ h _ => h⟩
    have bd : Below w.heap.size W4 (W4.drewN nq) := (drewN_belowW W4 nq).mono HB.out.size
    cases q with
    | false =>
      gi_wp2_with fail
      exact ⟨hk.trans ((KeepsOthers.setCell _ _ _).from _), ⟨HSC.out, HR.out.set _⟩, (HB.out.trans bd).setCell (p := ⟨w.heap.size + 1, 0, none⟩) (by show w.heap.size ≤ w.heap.size + 1; omega) _⟩
    | true =>
      gi_wp2_with fail
      have hgd : (W4.drewN nq).heap[g]? = some (.cells (numR d) 179 (0, 0)) := HG.out
      refine ⟨hk.trans ((KeepsOthers.setCell _ _ _).from _), (KT.of_below (drewN_belowW W4 nq) HB.out.size).trans (KT.set _ (by omega) hgd (by decide)), ⟨⟨⟨put5 d i 0, HSC.out, ?_⟩, ?_⟩, (HB.out.trans bd).setCell (p := ⟨g, i, none⟩) (by show w.heap.size ≤ g; omega) _⟩⟩
      · rw [← numR_set d HI.out 0]
        exact heap_setCell_same _ g i _ _ _ hgd
      · exact (heap_setCell_other _ ⟨g, i, none⟩ _ _ (by show w.heap.size + 1 ≠ g; omega)).trans HR.out
  case done =>
    rintro xs W4 hxs ⟨⟨⟨d, hd, hg4⟩, r4⟩, hB4⟩ hK
    have kc : ∀ (j : Nat) (u : Value), (numR d)[j]? = some u → W4.cell? ⟨g, j, none⟩ = some u := fun j u hu => (cell_of_row W4 g j _ _ _ hg4).trans hu
    have d0 : W4.cell? ⟨g, 0, none⟩ = some (.int .i64 (d 0)) := kc 0 _ rfl
    have d1 : W4.cell? ⟨g, 1, none⟩ = some (.int .i64 (d 1)) := kc 1 _ rfl
    have d2 : W4.cell? ⟨g, 2, none⟩ = some (.int .i64 (d 2)) := kc 2 _ rfl
    have d3 : W4.cell? ⟨g, 3, none⟩ = some (.int .i64 (d 3)) := kc 3 _ rfl
    have d4 : W4.cell? ⟨g, 4, none⟩ = some (.int .i64 (d 4)) := kc 4 _ rfl
    have cr := r4.cell
    have fr := r4.frozen
    have hr0 : res = (d 0 == 0 && (d 1 == 0 && (d 2 == 0 && (d 3 == 0 && d 4 == 0)))) := by
      rw [hres, ← hxs, hd]
      simp [zeroO, zeroB, Bool.and_assoc]
    obtain ⟨y0, hy0⟩ : ∃ y, y = d 0 := ⟨_, rfl⟩
    rw [← hy0] at d0 hr0
    obtain ⟨y1, hy1⟩ : ∃ y, y = d 1 := ⟨_, rfl⟩
    rw [← hy1] at d1 hr0
    obtain ⟨y2, hy2⟩ : ∃ y, y = d 2 := ⟨_, rfl⟩
    rw [← hy2] at d2 hr0
    obtain ⟨y3, hy3⟩ : ∃ y, y = d 3 := ⟨_, rfl⟩
    rw [← hy3] at d3 hr0
    obtain ⟨y4, hy4⟩ : ∃ y, y = d 4 := ⟨_, rfl⟩
    rw [← hy4] at d4 hr0
    have HB := Lib.hid hB4
    have HR := Lib.hid r4
    have HK := Lib.hid hK
    clear kc hd hg4 hres r4 hB4 hK hy0 hy1 hy2 hy3 hy4
    cases hb0 : (y0 == 0) with
    | false =>
      have HRES : Hid (res = false) := by show _ = _; rw [hr0, hb0]; rfl
      clear hr0
      gi_wp2_with fail
      have hK9 : (W4.setCell ⟨w.heap.size + 1, 0, none⟩ (.bool false)).heap[W0.heap.size]? = some (.deferred (some [])) := (KeepsOthers.setCell _ _ _).same _ _ HK.out rfl
      have hB9 : Below w.heap.size w (W4.setCell ⟨w.heap.size + 1, 0, none⟩ (.bool false)) := HB.out.setCell (p := ⟨w.heap.size + 1, 0, none⟩) (by show w.heap.size ≤ w.heap.size + 1; omega) _
      have q1 := cell_kept ((HR.out.set (.bool false)).cell) (grownBy_putObj' _ W0.heap.size (.deferred none)) (fun r e => by cases e; exact ⟨_, hK9, rfl⟩)
      refine ⟨by simp, .inl ⟨_, _, rfl, run_takeDeferred hK9, ?_⟩⟩
      refine ⟨.bool false, ?_, by rw [HRES.out], hB9.trans (belowK_b (w := w) (Nat.le_refl _) _ _ _ _ (by omega) hK9 rfl rfl)⟩
      simp [results, Tryz.f86, go_sem, q1]
    | true =>
      cases hb1 : (y1 == 0) with
      | false =>
        have HRES : Hid (res = false) := by show _ = _; rw [hr0, hb0, hb1]; rfl
        clear hr0
        gi_wp2_with fail
        have hK9 : (W4.setCell ⟨w.heap.size + 1, 0, none⟩ (.bool false)).heap[W0.heap.size]? = some (.deferred (some [])) := (KeepsOthers.setCell _ _ _).same _ _ HK.out rfl
        have hB9 : Below w.heap.size w (W4.setCell ⟨w.heap.size + 1, 0, none⟩ (.bool false)) := HB.out.setCell (p := ⟨w.heap.size + 1, 0, none⟩) (by show w.heap.size ≤ w.heap.size + 1; omega) _
        have q1 := cell_kept ((HR.out.set (.bool false)).cell) (grownBy_putObj' _ W0.heap.size (.deferred none)) (fun r e => by cases e; exact ⟨_, hK9, rfl⟩)
        refine ⟨by simp, .inl ⟨_, _, rfl, run_takeDeferred hK9, ?_⟩⟩
        refine ⟨.bool false, ?_, by rw [HRES.out], hB9.trans (belowK_b (w := w) (Nat.le_refl _) _ _ _ _ (by omega) hK9 rfl rfl)⟩
        simp [results, Tryz.f86, go_sem, q1]
      | true =>
        cases hb2 : (y2 == 0) with
        | false =>
          have HRES : Hid (res = false) := by show _ = _; rw [hr0, hb0, hb1, hb2]; rfl
          clear hr0
          gi_wp2_with fail
          have hK9 : (W4.setCell ⟨w.heap.size + 1, 0, none⟩ (.bool false)).heap[W0.heap.size]? = some (.deferred (some [])) := (KeepsOthers.setCell _ _ _).same _ _ HK.out rfl
          have hB9 : Below w.heap.size w (W4.setCell ⟨w.heap.size + 1, 0, none⟩ (.bool false)) := HB.out.setCell (p := ⟨w.heap.size + 1, 0, none⟩) (by show w.heap.size ≤ w.heap.size + 1; omega) _
          have q1 := cell_kept ((HR.out.set (.bool false)).cell) (grownBy_putObj' _ W0.heap.size (.deferred none)) (fun r e => by cases e; exact ⟨_, hK9, rfl⟩)
          refine ⟨by simp, .inl ⟨_, _, rfl, run_takeDeferred hK9, ?_⟩⟩
          refine ⟨.bool false, ?_, by rw [HRES.out], hB9.trans (belowK_b (w := w) (Nat.le_refl _) _ _ _ _ (by omega) hK9 rfl rfl)⟩
          simp [results, Tryz.f86, go_sem, q1]
        | true =>
          cases hb3 : (y3 == 0) with
          | false =>
            have HRES : Hid (res = false) := by show _ = _; rw [hr0, hb0, hb1, hb2, hb3]; rfl
            clear hr0
            gi_wp2_with fail
            have hK9 : (W4.setCell ⟨w.heap.size + 1, 0, none⟩ (.bool false)).heap[W0.heap.size]? = some (.deferred (some [])) := (KeepsOthers.setCell _ _ _).same _ _ HK.out rfl
            have hB9 : Below w.heap.size w (W4.setCell ⟨w.heap.size + 1, 0, none⟩ (.bool false)) := HB.out.setCell (p := ⟨w.heap.size + 1, 0, none⟩) (by show w.heap.size ≤ w.heap.size + 1; omega) _
            have q1 := cell_kept ((HR.out.set (.bool false)).cell) (grownBy_putObj' _ W0.heap.size (.deferred none)) (fun r e => by cases e; exact ⟨_, hK9, rfl⟩)
            refine ⟨by simp, .inl ⟨_, _, rfl, run_takeDeferred hK9, ?_⟩⟩
            refine ⟨.bool false, ?_, by rw [HRES.out], hB9.trans (belowK_b (w := w) (Nat.le_refl _) _ _ _ _ (by omega) hK9 rfl rfl)⟩
            simp [results, Tryz.f86, go_sem, q1]
          | true =>
            cases hb4 : (y4 == 0) with
            | false =>
              have HRES : Hid (res = false) := by show _ = _; rw [hr0, hb0, hb1, hb2, hb3, hb4]; rfl
              clear hr0
              gi_wp2_with fail
              have hK9 : (W4.setCell ⟨w.heap.size + 1, 0, none⟩ (.bool false)).heap[W0.heap.size]? = some (.deferred (some [])) := (KeepsOthers.setCell _ _ _).same _ _ HK.out rfl
              have hB9 : Below w.heap.size w (W4.setCell ⟨w.heap.size + 1, 0, none⟩ (.bool false)) := HB.out.setCell (p := ⟨w.heap.size + 1, 0, none⟩) (by show w.heap.size ≤ w.heap.size + 1; omega) _
              have q1 := cell_kept ((HR.out.set (.bool false)).cell) (grownBy_putObj' _ W0.heap.size (.deferred none)) (fun r e => by cases e; exact ⟨_, hK9, rfl⟩)
              refine ⟨by simp, .inl ⟨_, _, rfl, run_takeDeferred hK9, ?_⟩⟩
              refine ⟨.bool false, ?_, by rw [HRES.out], hB9.trans (belowK_b (w := w) (Nat.le_refl _) _ _ _ _ (by omega) hK9 rfl rfl)⟩
              simp [results, Tryz.f86, go_sem, q1]
            | true =>
              have HRES : Hid (res = true) := by show _ = _; rw [hr0, hb0, hb1, hb2, hb3, hb4]; rfl
              clear hr0
              gi_wp2_with fail
              have hK9 : (W4.setCell ⟨w.heap.size + 1, 0, none⟩ (.bool true)).heap[W0.heap.size]? = some (.deferred (some [])) := (KeepsOthers.setCell _ _ _).same _ _ HK.out rfl
              have hB9 : Below w.heap.size w (W4.setCell ⟨w.heap.size + 1, 0, none⟩ (.bool true)) := HB.out.setCell (p := ⟨w.heap.size + 1, 0, none⟩) (by show w.heap.size ≤ w.heap.size + 1; omega) _
              have q1 := cell_kept ((HR.out.set (.bool true)).cell) (grownBy_putObj' _ W0.heap.size (.deferred none)) (fun r e => by cases e; exact ⟨_, hK9, rfl⟩)
              refine ⟨by simp, .inl ⟨_, _, rfl, run_takeDeferred hK9, ?_⟩⟩
              refine ⟨.bool true, ?_, by rw [HRES.out], hB9.trans (belowK_b (w := w) (Nat.le_refl _) _ _ _ _ (by omega) hK9 rfl rfl)⟩
              simp [results, Tryz.f86, go_sem, q1]
  case stop =>
    rintro pre W4 hsp ⟨⟨hx, r4⟩, hB4⟩ hK
    have hr0 : res = false := by
      obtain ⟨z, hz⟩ := hsp
      rw [hres, ← hz, scanP_pre hx]
      rfl
    subst hr0
    gi_wp2_with fail
    have q1 := cell_kept r4.cell (grownBy_putObj' _ W0.heap.size (.deferred none)) (fun r e => by cases e; exact ⟨_, hK, rfl⟩)
    refine ⟨by simp, .inl ⟨_, _, rfl, run_takeDeferred hK, ?_⟩⟩
    refine ⟨.bool false, ?_, rfl, hB4.trans (belowK_b (w := w) (Nat.le_refl _) _ _ _ _ (by omega) hK rfl rfl)⟩
    simp [results, Tryz.f86, go_sem, q1]
set_option maxRecDepth 100000 in
set_option maxHeartbeats 8000000 in
theorem may_loopT (n : Nat) (hn : 8 ≤ n) (e : Ev) (ok : EvOk e) (T V S : Int) (h : sizesB T V S = true) (h2 : (decide (0 ≤ e.th) && decide (e.th ≤ T - 1)) = true) (h3 : 1 ≤ e.kd ∧ e.kd ≤ 13) (h4 : fullB e.kd e.why = true) (h5 : e.pl = 0) (w : World) (he : Ek w) :
    CallsIn Fence.wide n Tryz.prog 86 #[evV e, .int .i64 T, .int .i64 V, .int .i64 S] w fun r w' => r = .returned (.bool (zeroO (scanP (partsK e.kd.toNat V S) (numC e)))) ∧ Below w.heap.size w w' := by
  have h1 : 1 ≤ n := by omega
  obtain ⟨res, hres⟩ : ∃ res, res = zeroO (scanP (partsK e.kd.toNat V S) (numC e)) := ⟨_, rfl⟩
  rw [← hres]
  have H1 := Lib.hid (fun w1 => callsIn_wide (n := n - 1).2 (sizes_any T V S w1))
  have H2 := Lib.hid (fun w1 => callsIn_wide (n := n - 1).2 (within_any e.th 0 (T - 1) w1))
  have H4 := Lib.hid (fun w1 => callsIn_wide (n := n - 1).2 (full_any e w1))
  have H5 := Lib.hid (fun w1 => callsIn_wide (n := n - 1).2 (of_any e ok w1))
  rw [h] at H1
  rw [h2] at H2
  have hs := sizes_iff h
  have t1 : 1 ≤ T := by omega
  have t2 : T ≤ 6 := by omega
  obtain ⟨v1, v2⟩ := hs.2.1
  obtain ⟨s1, s2'⟩ := hs.2.2
  have s2 : S ≤ 32 := by omega
  obtain ⟨k, hk⟩ : ∃ k : Nat, e.kd = k := ⟨e.kd.toNat, by omega⟩
  have hk2 : e.kd.toNat = k := by omega
  rw [hk2] at hres
  obtain ⟨b0, hb⟩ : ∃ b0, b0 = bsW (nmL k) := ⟨_, rfl⟩
  have hbe : b0.toList.isEmpty = false := by rw [hb]; exact nm_ne (by omega) (by omega)
  have H3 : Hid (∀ w1, Below w.heap.size w w1 → CallsIn Fence.wide (n - 1) Tryz.prog 114 #[.int .u8 k] w1 fun r w' => r = .returned (.string b0) ∧ w1 = w') := fun w1 bb => by
    have := name_any k (by omega) w1 (he.below bb)
    rw [show nmV k = .string b0 by unfold nmV; rw [hb]] at this
    exact callsIn_wide.2 this
  have hk13 : k ≤ 13 := by omega
  have fS : Fence.wide.fn 112 := trivial
  have fW : Fence.wide.fn 113 := trivial
  have fN : Fence.wide.fn 114 := trivial
  have fF : Fence.wide.fn 115 := trivial
  have fO : Fence.wide.fn 116 := trivial
  have fP : Fence.wide.fn 117 := trivial
  obtain ⟨c, hc⟩ : ∃ c, c = numC e := ⟨_, rfl⟩
  rw [← hc] at hres H5
  rw [h4] at H4
  clear h h2 hs h3 hb he ok s2' hk2 hc h4
  unfold numV at H5
  unfold evV at H4 H5 ⊢
  obtain ⟨kd, th, tx, pl, ve, xe, why⟩ := e
  simp only at *
  subst hk
  subst h5
  refine callsIn_of_wp_marks Tryz.func86 rfl trivial ?_ rfl
  simp only [Tryz.ntmps86, List.size_toArray, List.length_cons, List.length_nil, Nat.reduceAdd, Nat.reduceSub, Array.replicate_succ, Array.replicate_zero, List.push_toArray, List.append_toArray, List.nil_append, List.cons_append]
  gi_wp2_with fail
  refine (H1.out _).mono ?_
  rintro _ w1 ⟨rfl, rfl⟩
  gi_wp2_with fail
  refine (H2.out _).mono ?_
  rintro _ w1 ⟨rfl, rfl⟩
  gi_wp2_with fail
  refine (H3.out _ (by go_grown)).mono ?_
  rintro _ w1 ⟨rfl, rfl⟩
  gi_wp2_with fail
  refine (H4.out _).mono ?_
  rintro _ w1 ⟨rfl, b1⟩
  have a0 : w1.heap[w.heap.size]? = some (.cells #[.int .u8 k, .int .i64 th, .int .i64 tx, .int .i64 0, .int .i64 ve, .int .i64 xe, .int .u8 why] 50 (0, 0)) := (b1.block _ (by simp; omega)).trans (heap_alloc2_old w _ _)
  have a1 : ∀ (i : Nat) (u : Value), (#[.int .u8 k, .int .i64 th, .int .i64 tx, .int .i64 0, .int .i64 ve, .int .i64 xe, .int .u8 why] : Array Value)[i]? = some u → w1.cell? ⟨w.heap.size, i, none⟩ = some u := fun i u hu => (cell_of_row w1 _ i _ _ _ a0).trans hu
  have e0 := a1 0 _ rfl
  have e1 := a1 1 _ rfl
  have e2 := a1 2 _ rfl
  have e3 := a1 3 _ rfl
  have e4 := a1 4 _ rfl
  have e5 := a1 5 _ rfl
  have e6 := a1 6 _ rfl
  clear a1 a0
  have r1 : _root_.Go.Boxed w1 (w.heap.size + 1) 4 (.bool false) := (b1.block _ (by simp)).trans (heap_alloc2_new w _ _)
  have B1 : Hid (Below w.heap.size w w1) := by
    refine Lib.hid (Below.trans (B := w.heap.size) ?_ (b1.mono (by simp; omega)))
    go_grown
  have R1 := Lib.hid r1
  clear b1 r1
  gi_wp2_with fail
  refine (H5.out _).mono ?_
  rintro _ w2 ⟨rfl, b2⟩
  have e0' := (b2.cell (there_blockW e0)).trans e0
  have hN := there_blockW e0'
  have R2 : Hid (_root_.Go.Boxed w2 (w.heap.size + 1) 4 (.bool false)) := (b2.block _ R1.out.lt).trans R1.out
  have hN1 : w.heap.size + 1 < w2.heap.size := R2.out.lt
  have B2 : Hid (Below w.heap.size w w2) := B1.out.trans (b2.mono B1.out.size)
  clear b2 e0 e1 e2 e3 e4 e5 e6 B1 R1 H1 H2 H3 H4 H5
  gi_wp2_with fail
  obtain ⟨W3, hW3⟩ : ∃ W3, W3 = w2.alloc (.cells #[.int .i64 (c 0), .int .i64 (c 1), .int .i64 (c 2), .int .i64 (c 3), .int .i64 (c 4)] 179) := ⟨_, rfl⟩
  obtain ⟨g, hg⟩ : ∃ g, g = w2.heap.size := ⟨_, rfl⟩
  have g3 : W3.heap[g]? = some (.cells (numR c) 179 (0, 0)) := by rw [hW3, hg]; exact World.alloc_heap_new w2 _
  have r3 : _root_.Go.Boxed W3 (w.heap.size + 1) 4 (.bool false) := by rw [hW3]; exact R2.out.alloc _
  have b3 : Below w.heap.size w W3 := by rw [hW3]; exact B2.out.alloc (by omega) _
  have hgN : w.heap.size + 2 ≤ g := by omega
  rw [← hW3, ← hg]
  clear hW3 hg e0' hN hN1 R2 B2
  refine (parts_call Fence.wide (n - 1) trivial rfl k V S W3).mono ?_
  rintro e w' ⟨rfl, rfl⟩
  gi_wp2_with fail
  obtain ⟨W0, hW0⟩ : ∃ W0, W0 = ((W3.alloc (.cells #[.int .u8 k] 5)).alloc (.cells #[.int .i64 V] 3)).alloc (.cells #[.int .i64 S] 3) := ⟨_, rfl⟩
  have hz0 : W0.heap.size = W3.heap.size + 3 := by rw [hW0]; simp
  have q3 : _root_.Go.Boxed W0 W3.heap.size 5 (.int .u8 k) := by rw [hW0]; exact ((_root_.Go.Boxed.new W3 _ _).alloc _).alloc _
  have q4 : _root_.Go.Boxed W0 (W3.heap.size + 1) 3 (.int .i64 V) := by
    rw [hW0]
    have := (_root_.Go.Boxed.new (W3.alloc (.cells #[.int .u8 k] 5)) 3 (.int .i64 V)).alloc (.cells #[.int .i64 S] 3)
    rwa [World.size_alloc] at this
  have q5 : _root_.Go.Boxed W0 (W3.heap.size + 1 + 1) 3 (.int .i64 S) := by
    rw [hW0]
    have := _root_.Go.Boxed.new ((W3.alloc (.cells #[.int .u8 k] 5)).alloc (.cells #[.int .i64 V] 3)) 3 (.int .i64 S)
    rwa [World.size_alloc, World.size_alloc] at this
  have k30 : Below W3.heap.size W3 W0 := by rw [hW0]; exact (((Below.refl _ W3).alloc (Nat.le_refl _) _).alloc (by simp) _).alloc (by simp; omega) _
  have g0 : W0.heap[g]? = some (.cells (numR c) 179 (0, 0)) := (k30.block g (Array.getElem?_eq_some_iff.1 g3).1).trans g3
  have r0 : _root_.Go.Boxed W0 (w.heap.size + 1) 4 (.bool false) := (k30.block _ r3.lt).trans r3
  have hB0 : Below w.heap.size w W0 := b3.trans (k30.mono b3.size)
  have hw0 : w.heap.size ≤ W0.heap.size := hB0.size
  rw [← hW0]
  clear hW0 k30 g3 r3 b3 hz0
  refine loopT (F := Fence.wide) (Kp := KT w.heap.size 186) KT.trans rfl h1 (gf := 130) (lb := #[.pointer (some ⟨W3.heap.size + 1 + 1, 0, none⟩), .pointer (some ⟨W3.heap.size + 1, 0, none⟩), .pointer (some ⟨W3.heap.size, 0, none⟩)]) rfl trivial (enters_of Tryz.func130 (by kernel_rfl) rfl)
    (n₀ := w.heap.size) (fun o o' hl h hc => KT.putObj o o' hl h hc) (parts_seq (n - 1) (by omega) W3.heap.size (W3.heap.size + 1) (W3.heap.size + 1 + 1) w.heap.size k (by omega) V S v1 v2 s1 s2 W0 hB0.size q3 q4 q5) hB0.size (fun _ => rfl)
    (fun pre W => ((∃ d, scanP pre c = some d ∧ W.heap[g]? = some (.cells (numR d) 179 (0, 0))) ∧ _root_.Go.Boxed W (w.heap.size + 1) 4 (.bool false)) ∧ Below w.heap.size w W)
    (fun pre W => (scanP pre c = none ∧ _root_.Go.Boxed W (w.heap.size + 1) 4 (.bool false)) ∧ Below w.heap.size w W)
    ?own ?ownX ⟨⟨⟨c, rfl, g0⟩, r0⟩, hB0⟩
    (fun x b => { tmps := #[.agg #[.int .u8 k, .int .i64 th, .int .i64 tx, .int .i64 0, .int .i64 ve, .int .i64 xe, .int .u8 why], .int .i64 T, .int .i64 V, .int .i64 S, .pointer (some ⟨w.heap.size, 0, none⟩), undef, undef, undef, .pointer (some ⟨w.heap.size + 1, 0, none⟩), .pointer (some ⟨g, 0, none⟩), .pointer (some ⟨b, 0, none⟩), undef, .int .i64 T, .int .i64 V, .int .i64 S, .bool true, .bool false, .bool false, .pointer (some ⟨w.heap.size, 1, none⟩), .int .i64 th, .int .i64 T, .int .i64 (T - 1), .bool true, .bool false, .bool false, .bool false, .pointer (some ⟨w.heap.size, 0, none⟩), .int .u8 k, .string b0, .bool false, .bool false, .agg #[.int .u8 k, .int .i64 th, .int .i64 tx, .int .i64 0, .int .i64 ve, .int .i64 xe, .int .u8 why], .bool true, .bool true, .pointer (some ⟨w.heap.size, 3, none⟩), .int .i64 0, .bool false, .bool false, .agg #[.int .u8 k, .int .i64 th, .int .i64 tx, .int .i64 0, .int .i64 ve, .int .i64 xe, .int .u8 why], .agg #[.int .i64 (c 0), .int .i64 (c 1), .int .i64 (c 2), .int .i64 (c 3), .int .i64 (c 4)], .pointer (some ⟨w.heap.size, 0, none⟩), .int .u8 k, .int .i64 V, .int .i64 S, .func (.func 130) #[] #[.pointer (some ⟨W3.heap.size + 1 + 1, 0, none⟩), .pointer (some ⟨W3.heap.size + 1, 0, none⟩), .pointer (some ⟨W3.heap.size, 0, none⟩)], partV x, undef, undef, undef, undef, undef, undef, undef, undef, undef, undef, undef, undef, undef, undef, undef, undef, undef], defers := [] })
    (fun pre x b W => (((∃ d, scanP pre c = some d ∧ W.heap[g]? = some (.cells (numR d) 179 (0, 0))) ∧ _root_.Go.Boxed W (w.heap.size + 1) 4 (.bool false)) ∧ Below w.heap.size w W) ∧ W.heap[b]? = some (.cells (partC x).toArray 186 (0, 0)))
    ?own1 ?assign ?body ?done ?stop
  case own =>
    refine OwnFrom.and (OwnFrom.and (fun s A B row hs hg hr => ?_) (fun s A B row hs hg hr => own_box _ _ (fun _ : Unit => .bool false) W0.heap.size () A B row hs hg hr)) (ownFrom_below (Nat.le_refl _) (by omega))
    obtain ⟨d, hd, hh⟩ := hs
    exact ⟨d, hd, row_own hh hg hr⟩
  case ownX => exact OwnFrom.and (OwnFrom.and (fun s A B row hs hg hr => hs) (fun s A B row hs hg hr => own_box _ _ (fun _ : Unit => .bool false) W0.heap.size () A B row hs hg hr)) (ownFrom_below (Nat.le_refl _) (by omega))
  case own1 =>
    refine OwnFrom.and (OwnFrom.and (OwnFrom.and (fun s A B row hs hg hr => ?_) (fun s A B row hs hg hr => own_box _ _ (fun _ : Unit => .bool false) W0.heap.size () A B row hs hg hr)) (ownFrom_below (Nat.le_refl _) (by omega))) (fun s A B row hs hg hr => row_own hs hg hr)
    obtain ⟨d, hd, hh⟩ := hs
    exact ⟨d, hd, row_own hh hg hr⟩
  case assign =>
    intro l2 pre x W4 K hi4 hsz4 hK
    have hK := Lib.hid hK
    have hi4 := Lib.hid hi4
    have st := fun (w : World) (a : Addr) (m : Mode) => run_store Tryz.prog w a (.func (.func (fnP x.wh)) #[] #[]) m rfl
    have hsz : w.heap.size ≤ W4.heap.size := hi4.out.2.size
    unfold encP partV
    gi_wp2
    refine hK.out W4.heap.size _ (KeepsFrom.of_grownBy (World.grownBy_alloc W4 _ none) (fun j e => by cases e)) (KT.alloc _ hsz) ⟨⟨⟨?_, hi4.out.1.2.alloc _⟩, hi4.out.2.alloc hsz _⟩, World.alloc_heap_new W4 _⟩
    obtain ⟨d, hd, hh⟩ := hi4.out.1.1
    exact ⟨d, hd, (heap_alloc_old W4 _ (Array.getElem?_eq_some_iff.1 hh).1).trans hh⟩
  case body =>
    rintro l2 pre x b W4 ⟨⟨⟨⟨d, hd, hg4⟩, r4⟩, hB4⟩, hbx⟩ hlen
    have hwh := x.wh.isLt
    obtain ⟨i, hi⟩ : ∃ i : Nat, i = x.wh := ⟨_, rfl⟩
    rw [← hi] at hwh
    have kc : ∀ (j : Nat) (u : Value), (partC x)[j]? = some u → W4.cell? ⟨b, j, none⟩ = some u := fun j u hu => (cell_of_row W4 b j _ _ _ hbx).trans (by rw [List.getElem?_toArray]; exact hu)
    have c0 := kc 0 _ rfl
    have c1 := kc 1 _ rfl
    have c2 := kc 2 _ rfl
    obtain ⟨fp, hfp⟩ : ∃ fp, fp = fnP x.wh := ⟨_, rfl⟩
    rw [← hfp] at c0
    have eg : ∀ args w, (callFunc fp args).run Tryz.prog w = .ok (.enter fp args) w := by rw [hfp]; exact fnP_enters x.wh.isLt
    have ffp : Fence.wide.fn fp := trivial
    have f64 : Fence.wide.fn 118 := trivial
    have M : Hid (∀ k, CallsIn (Fence.wide.inRound l2) k Tryz.prog fp #[.pointer (some ⟨g, 0, none⟩)] W4 fun e w' => e = .returned (.pointer (some ⟨g, i, none⟩)) ∧ W4 = w') := fun k => by
      rw [hfp, hi]
      exact CallsIn.inRound l2 (callsIn_wide.2 (meth_any x.wh x.wh.isLt g W4))
    have cg : W4.cell? ⟨g, i, none⟩ = some (.int .i64 (d i)) := (cell_of_row W4 g i _ _ _ hg4).trans (numR_get d hwh)
    obtain ⟨y, hy⟩ : ∃ y, y = d i := ⟨_, rfl⟩
    rw [← hy] at cg
    have fg : W4.frozen? ⟨g, i, none⟩ = false := frozen_of_row W4 g i _ _ hg4
    have HD : Fence.wide.depth.isSome = true → 1 ≤ n - 1 - 1 := fun h => by cases h
    obtain ⟨q, hq⟩ : ∃ q, q = inP x y := ⟨_, rfl⟩
    have Q1 : Hid (∀ k j : Nat, (Fence.wide.depth.isSome = true → 1 ≤ n - 1 - 1) ∧ CallsIn (Fence.wide.inRound l2) j Tryz.prog 118 #[.int .i64 y, .int .i64 x.lo, .int .i64 x.hi] (W4.drewN k) fun e w' => e = .returned (.bool q) ∧ w' = W4.drewN k) := fun k j => ⟨HD, CallsIn.inRound l2 (callsIn_wide.2 ((within64_any y x.lo x.hi (W4.drewN k)).mono fun e w' ⟨a, b⟩ => ⟨by rw [hq]; exact a, b.symm⟩))⟩
    have HSC : Hid (scanP (pre ++ [x]) c = if q = true then some (put5 d i 0) else none) := by
      show _ = _
      rw [scanP_snoc, hd]
      show (if inP x (d x.wh) = true then _ else _) = _
      rw [hq, hy, hi]
    have HR := Lib.hid r4
    have HG := Lib.hid hg4
    have HB := Lib.hid hB4
    have cr := r4.cell
    have fr := r4.frozen
    have HI := Lib.hid hwh
    clear hi hwh kc hfp hy hq hd hg4 r4 hB4 hbx
    gi_wp2_with fail
    refine ⟨HD, (M.out _).mono ?_⟩
    rintro _ w5 ⟨rfl, rfl⟩
    gi_wp2_with fail
    refine wpIn_region_quietR rfl (by kernel_rfl) (by kernel_rfl) (by kernel_rfl) ?_
    repeat (gi_big_quiet_step (exact ⟨(Q1.out 0 0).1, CallsIn.quiet_of_same (Q1.out _ _).2⟩))
    refine wpQuietIn_nil ?_
    intro _ hw'
    obtain ⟨nq, hw''⟩ := hw'
    subst hw''
    have hk : KeepsFrom W0.heap.size W4 (W4.drewN nq) := ⟨Nat.le_refl _, fun _ _ _ h _ => h⟩
    have bd : Below w.heap.size W4 (W4.drewN nq) := (drewN_belowW W4 nq).mono HB.out.size
    cases q with
    | false =>
      gi_wp2_with fail
      exact ⟨hk.trans ((KeepsOthers.setCell _ _ _).from _), ⟨HSC.out, HR.out.set _⟩, (HB.out.trans bd).setCell (p := ⟨w.heap.size + 1, 0, none⟩) (by show w.heap.size ≤ w.heap.size + 1; omega) _⟩
    | true =>
      gi_wp2_with fail
      have hgd : (W4.drewN nq).heap[g]? = some (.cells (numR d) 179 (0, 0)) := HG.out
      refine ⟨hk.trans ((KeepsOthers.setCell _ _ _).from _), (KT.of_below (drewN_belowW W4 nq) HB.out.size).trans (KT.set _ (by omega) hgd (by decide)), ⟨⟨⟨put5 d i 0, HSC.out, ?_⟩, ?_⟩, (HB.out.trans bd).setCell (p := ⟨g, i, none⟩) (by show w.heap.size ≤ g; omega) _⟩⟩
      · rw [← numR_set d HI.out 0]
        exact heap_setCell_same _ g i _ _ _ hgd
      · exact (heap_setCell_other _ ⟨g, i, none⟩ _ _ (by show w.heap.size + 1 ≠ g; omega)).trans HR.out
  case done =>
    rintro xs W4 hxs ⟨⟨⟨d, hd, hg4⟩, r4⟩, hB4⟩ hK
    have kc : ∀ (j : Nat) (u : Value), (numR d)[j]? = some u → W4.cell? ⟨g, j, none⟩ = some u := fun j u hu => (cell_of_row W4 g j _ _ _ hg4).trans hu
    have d0 : W4.cell? ⟨g, 0, none⟩ = some (.int .i64 (d 0)) := kc 0 _ rfl
    have d1 : W4.cell? ⟨g, 1, none⟩ = some (.int .i64 (d 1)) := kc 1 _ rfl
    have d2 : W4.cell? ⟨g, 2, none⟩ = some (.int .i64 (d 2)) := kc 2 _ rfl
    have d3 : W4.cell? ⟨g, 3, none⟩ = some (.int .i64 (d 3)) := kc 3 _ rfl
    have d4 : W4.cell? ⟨g, 4, none⟩ = some (.int .i64 (d 4)) := kc 4 _ rfl
    have cr := r4.cell
    have fr := r4.frozen
    have hr0 : res = (d 0 == 0 && (d 1 == 0 && (d 2 == 0 && (d 3 == 0 && d 4 == 0)))) := by
      rw [hres, ← hxs, hd]
      simp [zeroO, zeroB, Bool.and_assoc]
    obtain ⟨y0, hy0⟩ : ∃ y, y = d 0 := ⟨_, rfl⟩
    rw [← hy0] at d0 hr0
    obtain ⟨y1, hy1⟩ : ∃ y, y = d 1 := ⟨_, rfl⟩
    rw [← hy1] at d1 hr0
    obtain ⟨y2, hy2⟩ : ∃ y, y = d 2 := ⟨_, rfl⟩
    rw [← hy2] at d2 hr0
    obtain ⟨y3, hy3⟩ : ∃ y, y = d 3 := ⟨_, rfl⟩
    rw [← hy3] at d3 hr0
    obtain ⟨y4, hy4⟩ : ∃ y, y = d 4 := ⟨_, rfl⟩
    rw [← hy4] at d4 hr0
    have HB := Lib.hid hB4
    have HR := Lib.hid r4
    have HK := Lib.hid hK
    clear kc hd hg4 hres r4 hB4 hK hy0 hy1 hy2 hy3 hy4
    cases hb0 : (y0 == 0) with
    | false =>
      have HRES : Hid (res = false) := by show _ = _; rw [hr0, hb0]; rfl
      clear hr0
      gi_wp2_with fail
      have hK9 : (W4.setCell ⟨w.heap.size + 1, 0, none⟩ (.bool false)).heap[W0.heap.size]? = some (.deferred (some [])) := (KeepsOthers.setCell _ _ _).same _ _ HK.out rfl
      have hB9 : Below w.heap.size w (W4.setCell ⟨w.heap.size + 1, 0, none⟩ (.bool false)) := HB.out.setCell (p := ⟨w.heap.size + 1, 0, none⟩) (by show w.heap.size ≤ w.heap.size + 1; omega) _
      have q1 := cell_kept ((HR.out.set (.bool false)).cell) (grownBy_putObj' _ W0.heap.size (.deferred none)) (fun r e => by cases e; exact ⟨_, hK9, rfl⟩)
      refine ⟨by simp, .inl ⟨_, _, rfl, run_takeDeferred hK9, ?_⟩⟩
      refine ⟨.bool false, ?_, by rw [HRES.out], hB9.trans (belowK_b (w := w) (Nat.le_refl _) _ _ _ _ (by omega) hK9 rfl rfl)⟩
      simp [results, Tryz.f86, go_sem, q1]
    | true =>
      cases hb1 : (y1 == 0) with
      | false =>
        have HRES : Hid (res = false) := by show _ = _; rw [hr0, hb0, hb1]; rfl
        clear hr0
        gi_wp2_with fail
        have hK9 : (W4.setCell ⟨w.heap.size + 1, 0, none⟩ (.bool false)).heap[W0.heap.size]? = some (.deferred (some [])) := (KeepsOthers.setCell _ _ _).same _ _ HK.out rfl
        have hB9 : Below w.heap.size w (W4.setCell ⟨w.heap.size + 1, 0, none⟩ (.bool false)) := HB.out.setCell (p := ⟨w.heap.size + 1, 0, none⟩) (by show w.heap.size ≤ w.heap.size + 1; omega) _
        have q1 := cell_kept ((HR.out.set (.bool false)).cell) (grownBy_putObj' _ W0.heap.size (.deferred none)) (fun r e => by cases e; exact ⟨_, hK9, rfl⟩)
        refine ⟨by simp, .inl ⟨_, _, rfl, run_takeDeferred hK9, ?_⟩⟩
        refine ⟨.bool false, ?_, by rw [HRES.out], hB9.trans (belowK_b (w := w) (Nat.le_refl _) _ _ _ _ (by omega) hK9 rfl rfl)⟩
        simp [results, Tryz.f86, go_sem, q1]
      | true =>
        cases hb2 : (y2 == 0) with
        | false =>
          have HRES : Hid (res = false) := by show _ = _; rw [hr0, hb0, hb1, hb2]; rfl
          clear hr0
          gi_wp2_with fail
          have hK9 : (W4.setCell ⟨w.heap.size + 1, 0, none⟩ (.bool false)).heap[W0.heap.size]? = some (.deferred (some [])) := (KeepsOthers.setCell _ _ _).same _ _ HK.out rfl
          have hB9 : Below w.heap.size w (W4.setCell ⟨w.heap.size + 1, 0, none⟩ (.bool false)) := HB.out.setCell (p := ⟨w.heap.size + 1, 0, none⟩) (by show w.heap.size ≤ w.heap.size + 1; omega) _
          have q1 := cell_kept ((HR.out.set (.bool false)).cell) (grownBy_putObj' _ W0.heap.size (.deferred none)) (fun r e => by cases e; exact ⟨_, hK9, rfl⟩)
          refine ⟨by simp, .inl ⟨_, _, rfl, run_takeDeferred hK9, ?_⟩⟩
          refine ⟨.bool false, ?_, by rw [HRES.out], hB9.trans (belowK_b (w := w) (Nat.le_refl _) _ _ _ _ (by omega) hK9 rfl rfl)⟩
          simp [results, Tryz.f86, go_sem, q1]
        | true =>
          cases hb3 : (y3 == 0) with
          | false =>
            have HRES : Hid (res = false) := by show _ = _; rw [hr0, hb0, hb1, hb2, hb3]; rfl
            clear hr0
            gi_wp2_with fail
            have hK9 : (W4.setCell ⟨w.heap.size + 1, 0, none⟩ (.bool false)).heap[W0.heap.size]? = some (.deferred (some [])) := (KeepsOthers.setCell _ _ _).same _ _ HK.out rfl
            have hB9 : Below w.heap.size w (W4.setCell ⟨w.heap.size + 1, 0, none⟩ (.bool false)) := HB.out.setCell (p := ⟨w.heap.size + 1, 0, none⟩) (by show w.heap.size ≤ w.heap.size + 1; omega) _
            have q1 := cell_kept ((HR.out.set (.bool false)).cell) (grownBy_putObj' _ W0.heap.size (.deferred none)) (fun r e => by cases e; exact ⟨_, hK9, rfl⟩)
            refine ⟨by simp, .inl ⟨_, _, rfl, run_takeDeferred hK9, ?_⟩⟩
            refine ⟨.bool false, ?_, by rw [HRES.out], hB9.trans (belowK_b (w := w) (Nat.le_refl _) _ _ _ _ (by omega) hK9 rfl rfl)⟩
            simp [results, Tryz.f86, go_sem, q1]
          | true =>
            cases hb4 : (y4 == 0) with
            | false =>
              have HRES : Hid (res = false) := by show _ = _; rw [hr0, hb0, hb1, hb2, hb3, hb4]; rfl
              clear hr0
              gi_wp2_with fail
              have hK9 : (W4.setCell ⟨w.heap.size + 1, 0, none⟩ (.bool false)).heap[W0.heap.size]? = some (.deferred (some [])) := (KeepsOthers.setCell _ _ _).same _ _ HK.out rfl
              have hB9 : Below w.heap.size w (W4.setCell ⟨w.heap.size + 1, 0, none⟩ (.bool false)) := HB.out.setCell (p := ⟨w.heap.size + 1, 0, none⟩) (by show w.heap.size ≤ w.heap.size + 1; omega) _
              have q1 := cell_kept ((HR.out.set (.bool false)).cell) (grownBy_putObj' _ W0.heap.size (.deferred none)) (fun r e => by cases e; exact ⟨_, hK9, rfl⟩)
              refine ⟨by simp, .inl ⟨_, _, rfl, run_takeDeferred hK9, ?_⟩⟩
              refine ⟨.bool false, ?_, by rw [HRES.out], hB9.trans (belowK_b (w := w) (Nat.le_refl _) _ _ _ _ (by omega) hK9 rfl rfl)⟩
              simp [results, Tryz.f86, go_sem, q1]
            | true =>
              have HRES : Hid (res = true) := by show _ = _; rw [hr0, hb0, hb1, hb2, hb3, hb4]; rfl
              clear hr0
              gi_wp2_with fail
              have hK9 : (W4.setCell ⟨w.heap.size + 1, 0, none⟩ (.bool true)).heap[W0.heap.size]? = some (.deferred (some [])) := (KeepsOthers.setCell _ _ _).same _ _ HK.out rfl
              have hB9 : Below w.heap.size w (W4.setCell ⟨w.heap.size + 1, 0, none⟩ (.bool true)) := HB.out.setCell (p := ⟨w.heap.size + 1, 0, none⟩) (by show w.heap.size ≤ w.heap.size + 1; omega) _
              have q1 := cell_kept ((HR.out.set (.bool true)).cell) (grownBy_putObj' _ W0.heap.size (.deferred none)) (fun r e => by cases e; exact ⟨_, hK9, rfl⟩)
              refine ⟨by simp, .inl ⟨_, _, rfl, run_takeDeferred hK9, ?_⟩⟩
              refine ⟨.bool true, ?_, by rw [HRES.out], hB9.trans (belowK_b (w := w) (Nat.le_refl _) _ _ _ _ (by omega) hK9 rfl rfl)⟩
              simp [results, Tryz.f86, go_sem, q1]
  case stop =>
    rintro pre W4 hsp ⟨⟨hx, r4⟩, hB4⟩ hK
    have hr0 : res = false := by
      obtain ⟨z, hz⟩ := hsp
      rw [hres, ← hz, scanP_pre hx]
      rfl
    subst hr0
    gi_wp2_with fail
    have q1 := cell_kept r4.cell (grownBy_putObj' _ W0.heap.size (.deferred none)) (fun r e => by cases e; exact ⟨_, hK, rfl⟩)
    refine ⟨by simp, .inl ⟨_, _, rfl, run_takeDeferred hK, ?_⟩⟩
    refine ⟨.bool false, ?_, rfl, hB4.trans (belowK_b (w := w) (Nat.le_refl _) _ _ _ _ (by omega) hK rfl rfl)⟩
    simp [results, Tryz.f86, go_sem, q1]
theorem may_any (e : Ev) (ok : EvOk e) (T V S : Int) (w : World) (he : Ek w) :
    Calls Tryz.prog 86 #[evV e, .int .i64 T, .int .i64 V, .int .i64 S] w fun r w' => r = .returned (.bool (mayB e T V S)) ∧ Below w.heap.size w w' := by
  unfold mayB
  cases h1 : sizesB T V S with
  | false => exact may_no1 e T V S h1 w
  | true =>
    cases h2 : (decide (0 ≤ e.th) && decide (e.th ≤ T - 1)) with
    | false => exact may_no2 e T V S h1 h2 w
    | true =>
      by_cases h3 : 1 ≤ e.kd ∧ e.kd ≤ 13
      · rw [show (decide (1 ≤ e.kd) && decide (e.kd ≤ 13)) = true by simp [h3]]
        cases h4 : fullB e.kd e.why with
        | false =>
          rw [show (true && true && true && !(false && e.pl != 0) && zeroO (scanP (partsK e.kd.toNat V S) (numC e))) = zeroO (scanP (partsK e.kd.toNat V S) (numC e)) by simp]
          exact callsIn_wide.1 (may_loopF 8 (by omega) e ok T V S h1 h2 h3 h4 w he)
        | true =>
          by_cases h5 : e.pl = 0
          · rw [show (true && true && true && !(true && e.pl != 0) && zeroO (scanP (partsK e.kd.toNat V S) (numC e))) = zeroO (scanP (partsK e.kd.toNat V S) (numC e)) by simp [h5]]
            exact callsIn_wide.1 (may_loopT 8 (by omega) e ok T V S h1 h2 h3 h4 h5 w he)
          · have h6 : (e.pl != 0) = true := by simpa using h5
            rw [show (true && true && true && !(true && e.pl != 0) && zeroO (scanP (partsK e.kd.toNat V S) (numC e))) = false by simp [h6]]
            exact may_no4 e ok T V S h1 h2 h3 h4 h6 w he
      · rw [show (decide (1 ≤ e.kd) && decide (e.kd ≤ 13)) = false by
          by_cases a : 1 ≤ e.kd
          · have : ¬ e.kd ≤ 13 := fun b => h3 ⟨a, b⟩
            simp [this]
          · simp [a]]
        rw [show (true && true && false && !(fullB e.kd e.why && e.pl != 0) && zeroO (scanP (partsK e.kd.toNat V S) (numC e))) = false by simp]
        exact may_no3 e ok T V S h1 h2 h3 w he
end Go.Proofs.YteigglhhnemngaaGreatDoor
namespace Go.Proofs.YteigglhhnemngaaGreatDoor
set_option maxRecDepth 100000
open Go.ChangeShapes Go.WideShapes Go.ChangeAt Go.RowKit Go.WideElems Go.WideMaps
set_option linter.unusedVariables false
theorem gEv : Tryz.prog.globalNamed "seesaw/event.names" = some 1 := by kernel_rfl
theorem tEv : (Tryz.prog.globals[1]?).map (·.type) = some 201 := by kernel_rfl
def evTab : List (List UInt8) := [nmL 0, nmL 1, nmL 2, nmL 3, nmL 4, nmL 5, nmL 6, nmL 7, nmL 8, nmL 9, nmL 10, nmL 11, nmL 12, nmL 13]
theorem nm_of {W : World} {cs0 : Array Value} {f0 : Nat} {p0 : List MemPlace} {nm : String} {g : Nat} (hg0 : Tryz.prog.globalNamed nm = some g) (hv0 : W.var? Tryz.prog nm = some cs0)
    (hd0 : DataW.trod (fun _ => ()) Tryz.prog W 0 (fun _ => true) false f0 201 cs0.toList = some (.agg (evTab.map (fun r => DataW.lit (.string r))), p0)) : ∀ k, k < 14 → W.cell? ⟨g, k, none⟩ = some (.string (bsW (nmL k))) := by
  obtain ⟨xs, m1, rfl, hx1, hlen, hn, hel⟩ := DataW.trod_array Tryz.underlying201 hd0
  have c1 : Tryz.prog.cellsOf 9 = 1 := by kernel_rfl
  have hcell := World.var?_cell hg0 hv0
  have hx2 := congrArg Prod.fst hx1
  have hx3 : evTab.map (fun r => DataW.lit (.string r)) = xs.map (·.1) := DataW.agg.inj hx2
  have hx9 : xs.length = 14 := hn
  intro k hk
  have h1 := hel k hk
  have hxk : xs[k]? = some xs[k] := List.getElem?_eq_getElem (by omega)
  rw [hxk, c1] at h1
  obtain ⟨t, hc, hy, _⟩ := DataW.trod_string Tryz.underlying9 h1
  have hl : evTab[k]? = some (nmL k) := by
    have : k = 0 ∨ k = 1 ∨ k = 2 ∨ k = 3 ∨ k = 4 ∨ k = 5 ∨ k = 6 ∨ k = 7 ∨ k = 8 ∨ k = 9 ∨ k = 10 ∨ k = 11 ∨ k = 12 ∨ k = 13 := by omega
    rcases this with rfl | rfl | rfl | rfl | rfl | rfl | rfl | rfl | rfl | rfl | rfl | rfl | rfl | rfl <;> rfl
  have e1 : (xs.map (·.1))[k]? = some (DataW.lit (.string (nmL k))) := by rw [← hx3, List.getElem?_map, hl]; rfl
  rw [List.getElem?_map, hxk, hy] at e1
  have e2 : t.data.toList = nmL k := by
    have h5 := Option.some.inj e1
    have h6 : DataW.lit (Lit.string t.data.toList) = DataW.lit (Lit.string (nmL k)) := h5
    injection h6 with h7
    injection h7
  have e3 : t = bsW (nmL k) := by rw [← e2, bsW_of]
  have hat : ((List.drop (k * 1) cs0.toList).take 1)[0]? = some (.string t) := by rw [hc]; rfl
  rw [List.getElem?_take_of_lt (by omega), List.getElem?_drop, Nat.mul_one, Nat.add_zero] at hat
  rw [hcell, ← Array.getElem?_toList, hat, e3]
theorem ek_of_laid13 {W : World} (h : laidMetH Tryz.prog [("seesaw/event.names", Rows.laid_seesaw_event_names)] W) : Ek W := by
  rw [MakeChecks.laidMetH_plain _ _ _ (by kernel_rfl)] at h
  obtain ⟨ps, ⟨g4, t4, cs4, f4, p4, q4, hg4, ht4, hv4, hd4, _, _⟩, _⟩ := h
  obtain rfl := Option.some.inj (gEv.symm.trans hg4)
  obtain rfl := Option.some.inj (tEv.symm.trans ht4)
  exact ⟨nm_of gEv hv4 hd4⟩
theorem door_met13 (os : Os) (args : Array Value) : laidMetH Tryz.prog [("seesaw/event.names", Rows.laid_seesaw_event_names)] ((World.doorLaid Tryz.prog 400 os).forCall (fun _ _ => 0) ⟨#[], args, []⟩).memory :=
  laidMetH_of_parts3 (fuel := 8) (laidMet_of_run' 8 (by kernel_rfl) (by kernel_rfl)) (by kernel_rfl) (by kernel_rfl)
end Go.Proofs.YteigglhhnemngaaGreatDoor
