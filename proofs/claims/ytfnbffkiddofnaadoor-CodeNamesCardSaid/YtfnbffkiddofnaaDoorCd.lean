/-
  CONTRACT OF PACKAGE code's Depth: how deep a transaction is; the memory that was there stays as it was. Conditions: as they stand.
-/
import Derived.Test.YtfnbffkiddofnaaDoorCt
namespace Go.Proofs.YtfnbffkiddofnaaDoor
open Go.RowKit Go.Shelf
set_option linter.unusedVariables false
attribute [local go_sem] Oper.semAt_some

theorem keeps_below {B : Nat} {W W' : World} (h : Below W.heap.size W W') : KeepsFrom B W W' := ⟨h.size, fun k o _ hk _ => (h.block k (Array.getElem?_eq_some_iff.1 hk).1).trans hk⟩
set_option maxRecDepth 100000 in
set_option maxHeartbeats 4000000 in
theorem depth_in (F : Fence) (hd : F.depth = none) (n : Nat) (h13 : F.fn 13) (h20 : F.fn 20) (h27 : F.fn 27) (h28 : F.fn 28) (hro : F.round = none) (hn : 3 ≤ n)
    (D : Nat) (A : Option Addr) (c : Nat) (tx : List St) (w : World) (hk : SKids w 0 w.heap.size D A tx) (hl : tx.length ≤ 9223372036854775807) (hD : D ≤ 4611686018427387903) :
    CallsIn F n Tryd.prog 13 #[.slice A tx.length c] w fun e w' => e = .returned (.int .i64 (deepL (flat D tx) : Nat)) ∧ Below w.heap.size w w' := by
  have h1 : 1 ≤ n := by omega
  have HK := Lib.hid hk
  clear hk
  refine callsIn_of_wp_marks Tryd.func13 rfl h13 ?_ hro
  simp only [Tryd.ntmps13, List.size_toArray, List.length_cons, List.length_nil, Nat.reduceAdd, Nat.reduceSub, Array.replicate_succ, Array.replicate_zero, List.push_toArray, List.append_toArray, List.nil_append, List.cons_append]
  gi_wp2_with (gi_at_call 20; refine (stm_in F (n - 1) h20 hro _ _ _ _).mono ?_; rintro e w' ⟨rfl, rfl⟩)
  have bR := (_root_.Go.Boxed.new w 3 (.int .i64 1)).alloc (.cells #[.slice A tx.length c] 26)
  have bT := _root_.Go.Boxed.new (w.alloc (.cells #[.int .i64 1] 3)) 26 (.slice A tx.length c)
  simp only [World.size_alloc] at bT
  have hB0 : Below w.heap.size w ((w.alloc (.cells #[.int .i64 1] 3)).alloc (.cells #[.slice A tx.length c] 26)) := ((Below.refl _ w).alloc (Nat.le_refl _) _).alloc (by simp) _
  have hsz : ((w.alloc (.cells #[.int .i64 1] 3)).alloc (.cells #[.slice A tx.length c] 26)).heap.size = w.heap.size + 2 := by simp
  obtain ⟨W0, hW0⟩ : ∃ W0, (w.alloc (.cells #[.int .i64 1] 3)).alloc (.cells #[.slice A tx.length c] 26) = W0 := ⟨_, rfl⟩
  rw [hW0] at bR bT hB0 hsz ⊢
  clear hW0
  refine wpIn_rangeFunc_ownH (w0 := W0) (encs := elV (w := w) (hi := w.heap.size) (D := D)) (Kp := Kc w.heap.size W0.heap.size) (S := fun ys => ys.map El.key = flat D tx) (Sp := fun ys => ys.map El.key <+: flat D tx) (N := (flat D tx).length)
    hro h1 (gf := 27) (lb := #[.pointer (some ⟨w.heap.size + 1, 0, none⟩)]) rfl h27 (enters_of Tryd.func27 (by kernel_rfl) rfl)
    (stm_stops F hd (n - 1) h27 h28 hro (w.heap.size + 1) w.heap.size D (fun _ => True) w W0 A c tx (by omega) (by omega) bT.cell HK.out (fun _ _ => trivial) hB0 hl hD) (fun h k => h.trans k) (fun W l o o' hl h hc _ => Kc.putObj (w := W0) (by omega) l o o' hl h hc) (Below.refl _ _) (fun _ => rfl)
    (fun pre W => _root_.Go.Boxed W w.heap.size 3 (.int .i64 (deepL (pre.map El.key) : Nat)) ∧ Below w.heap.size w W)
    (fun _ _ _ => False)
    (OwnFrom.and (Own.from (boxed_own _ _ _) _) (ownFrom_below (Nat.le_refl _) (by omega)))
    (fun _ _ _ _ _ hs _ _ => hs)
    ⟨bR, hB0⟩
    (fun x a' _ => a' = { tmps := #[.slice A tx.length c, undef, .int .i64 0, .pointer (some ⟨w.heap.size, 0, none⟩), .int .i64 x.deep, .slice A tx.length c, .func (.func 27) #[] #[.pointer (some ⟨w.heap.size + 1, 0, none⟩)], .int .i64 x.deep, x.r.v, undef, undef, undef, undef], defers := [] })
    (fun _ _ _ _ _ _ hs _ _ => hs) ?assign ?body ?done ?stop
  case assign =>
    rintro l pre x W K hI hK
    rw [show elV x = #[.int .i64 x.deep, x.r.v] from rfl]
    gi_wp2
    exact hK _ _ (KeepsFrom.refl _ _) (Kc.refl _ _ _) hI rfl
  case body =>
    rintro l pre x a' W hl ⟨r, hr⟩ ⟨bR1, hB1⟩ rfl hlt
    have cR := bR1.cell
    have fR := bR1.frozen
    have hx := x.small
    have hv : deepL ((pre ++ [x]).map El.key) = max (deepL (pre.map El.key)) x.deep := by rw [List.map_append]; exact deepL_snoc _ _
    obtain ⟨u, hu⟩ : ∃ u, u = deepL (pre.map El.key) := ⟨_, rfl⟩
    rw [← hu] at hv cR bR1
    clear hu
    gi_wp2
    all_goals
      refine ⟨(KeepsOthers.setCell _ _ _).from _, Kc.set _ (by omega) (by omega), ?_, hB1.setCell (p := ⟨w.heap.size, 0, none⟩) (Nat.le_refl _) _⟩
      rw [hv]
      first
        | (rw [show max u x.deep = x.deep by omega]; exact bR1.set _)
        | (rw [show max u x.deep = u by omega]; exact bR1.set _)
  case done =>
    rintro Dd zs W hD' hz ⟨bR1, hB1⟩ hK
    have cR := bR1.cell
    have fR := bR1.frozen
    rw [hz] at cR
    gi_wp2
    refine ⟨by simp, .inl ⟨_, _, rfl, run_takeDeferred hK, ?_⟩⟩
    exact ⟨_, results_tmp rfl _ _ _, rfl, hB1.trans (belowK_b (w := w) (Nat.le_refl _) W Dd _ _ (by omega) hK rfl rfl)⟩
  case stop =>
    rintro Dd cc pre W _ _ h _
    exact h.elim
theorem depth_of (D : Nat) (A : Option Addr) (c : Nat) (tx : List St) (lo hi : Nat) (w : World) (hk : SKids w lo hi D A tx) (hhi : hi ≤ w.heap.size) (hl : tx.length ≤ 9223372036854775807) (hD : D ≤ 4611686018427387903) :
    Calls Tryd.prog 13 #[.slice A tx.length c] w fun e w' => e = .returned (.int .i64 (deepL (flat D tx) : Nat)) ∧ Below w.heap.size w w' :=
  callsIn_wide.1 (depth_in Fence.wide rfl 3 trivial trivial trivial trivial rfl (by omega) D A c tx w (hk.wide (Nat.zero_le _) hhi) hl hD)
end Go.Proofs.YtfnbffkiddofnaaDoor
