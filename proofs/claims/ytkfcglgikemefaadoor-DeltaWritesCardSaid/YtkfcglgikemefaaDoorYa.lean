/-
  THE DOCUMENT'S OWN event.May (layer 12): several texts in one: Wx, Wy, Rw, Rd, Wk, Wl, Wz, Ya. Conditions: as they stand.
-/
import Derived.Test.YtkfcglgikemefaaDoorWs
import Derived.Test.YtkfcglgikemefaaDoorWt
import Derived.BigRegion
import Derived.Deep.DeepCutAuto
import Derived.Test.YtkfcglgikemefaaDoorRv
import Derived.Test.YtkfcglgikemefaaDoorRi
import Derived.OrdersIn
import Derived.RangeFuncCalls
import Derived.Test.YtkfcglgikemefaaDoorRt
import Derived.Test.YtkfcglgikemefaaDoorWj
import Derived.RangeFuncBox
import Derived.Test.YtkfcglgikemefaaDoorWg
namespace Go.Proofs.YtkfcglgikemefaaDoor
set_option maxRecDepth 100000
open Go.RowKit
set_option linter.unusedVariables false
/-- The document's own table of names. -/
structure Er (w : World) : Prop where
  nm : ∀ k, k < 14 → w.cell? ⟨1, k, none⟩ = some (.string (bsW (nmL k)))
theorem Er.below {w w' : World} (h : Er w) (hb : Below w.heap.size w w') : Er w' := ⟨fun k hk => (hb.cell (there_blockW (h.nm k hk))).trans (h.nm k hk)⟩
theorem rname_any (k : Nat) (hk : k < 256) (w : World) (he : Er w) :
    Calls Tryd.prog 85 #[.int .u8 k] w fun e w' => e = .returned (nmV k) ∧ w = w' := by
  have i1 : (0 : Int) ≤ (k : Int) := by omega
  have i2 : (k : Int) ≤ 255 := by omega
  by_cases h : k < 14
  · have c1 := he.nm k h
    have i3 : ¬ (13 : Int) < (k : Int) := by omega
    have i4 : (k : Int) < 14 := by omega
    obtain ⟨v, hv⟩ : ∃ v, v = nmV k := ⟨_, rfl⟩
    rw [← hv]
    unfold nmV at hv
    rw [← hv] at c1
    clear hv he h hk
    go_enter Tryd.func85, Tryd.ntmps85
    go_wp2
    go_ret
    exact ⟨rfl, rfl⟩
  · have i3 : (13 : Int) < (k : Int) := by omega
    rw [show nmV k = .string ⟨#[]⟩ by unfold nmV; rw [nmL_none (by omega)]; rfl]
    clear he h hk
    go_enter Tryd.func85, Tryd.ntmps85
    go_wp2
    go_ret
    exact ⟨rfl, rfl⟩
end Go.Proofs.YtkfcglgikemefaaDoor
namespace Go.Proofs.YtkfcglgikemefaaDoor
set_option maxRecDepth 100000
open Go.RowKit
set_option linter.unusedVariables false
def bareF (e : Ev) : Ev :=
  if e.kd = 1 then ⟨e.kd, e.th, e.tx, 0, e.v, 0, 0⟩
  else if e.kd = 2 then ⟨e.kd, e.th, 0, e.pl, e.v, 0, 0⟩
  else if e.kd = 3 ∨ e.kd = 8 then ⟨e.kd, e.th, 0, e.pl, 0, e.x, 0⟩
  else if e.kd = 4 ∨ e.kd = 6 ∨ e.kd = 9 ∨ e.kd = 11 then ⟨e.kd, e.th, 0, e.pl, 0, 0, 0⟩
  else if e.kd = 5 ∨ e.kd = 7 then ⟨e.kd, e.th, 0, 0, e.v, 0, 0⟩
  else if e.kd = 10 then ⟨e.kd, e.th, 0, e.pl, 0, 0, e.why⟩
  else ⟨e.kd, e.th, 0, 0, 0, 0, 0⟩
/-- The three boxes. -/
structure BoxB (w : World) (B g1 g2 g3 : Nat) (cs ds : Array Value) (W : World) : Prop where
  l1 : B ≤ g1
  l2 : B ≤ g2
  l3 : B ≤ g3
  h1 : g1 < g2
  h2 : g2 < g3
  r1 : W.heap[g1]? = some (.cells cs 46 (0, 0))
  r2 : W.heap[g2]? = some (.cells #[.int .u8 0, .int .i64 0, .int .i64 0, .int .i64 0, .int .i64 0, .int .i64 0, .int .u8 0] 46 (0, 0))
  r3 : W.heap[g3]? = some (.cells ds 46 (0, 0))
  low : Below B w W
theorem boxB_set {w W : World} {B g1 g2 g3 : Nat} {cs ds : Array Value} (h : BoxB w B g1 g2 g3 cs ds W) (i : Nat) (v : Value) : BoxB w B g1 g2 g3 cs (ds.setIfInBounds i v) (W.setCell ⟨g3, i, none⟩ v) :=
  have := h.h1
  have := h.h2
  ⟨h.l1, h.l2, h.l3, h.h1, h.h2, (heap_setCell_other W _ _ _ (by show g1 ≠ g3; omega)).trans h.r1, (heap_setCell_other W _ _ _ (by show g2 ≠ g3; omega)).trans h.r2, heap_setCell_same W g3 i _ _ _ h.r3, h.low.setCell h.l3 _⟩
theorem boxB_drew {w W : World} {B g1 g2 g3 : Nat} {cs ds : Array Value} (h : BoxB w B g1 g2 g3 cs ds W) : BoxB w B g1 g2 g3 cs ds W.drew := ⟨h.l1, h.l2, h.l3, h.h1, h.h2, h.r1, h.r2, h.r3, h.low.drew⟩
def sevenB (w : World) (g : Nat) (a b c d e f k : Value) : World := ((((((w.setCell ⟨g, 0, none⟩ a).setCell ⟨g, 1, none⟩ b).setCell ⟨g, 2, none⟩ c).setCell ⟨g, 3, none⟩ d).setCell ⟨g, 4, none⟩ e).setCell ⟨g, 5, none⟩ f).setCell ⟨g, 6, none⟩ k
theorem seven_row (w : World) (g : Nat) (a b c d e f k : Value) {a0 b0 c0 d0 e0 f0 k0 : Value} {t : TypeId} (h : w.heap[g]? = some (.cells #[a0, b0, c0, d0, e0, f0, k0] t (0, 0))) : (sevenB w g a b c d e f k).heap[g]? = some (.cells #[a, b, c, d, e, f, k] t (0, 0)) := by
  have h0 := heap_setCell_same w g 0 _ _ a h
  have h1 := heap_setCell_same _ g 1 _ _ b h0
  have h2 := heap_setCell_same _ g 2 _ _ c h1
  have h3 := heap_setCell_same _ g 3 _ _ d h2
  have h4 := heap_setCell_same _ g 4 _ _ e h3
  have h5 := heap_setCell_same _ g 5 _ _ f h4
  have h6 := heap_setCell_same _ g 6 _ _ k h5
  simpa [sevenB] using h6
theorem results_c1 {P : Program} {fn : Func} {p : Tmp} {ty : TypeId} (h : fn.results = #[.cell p ty]) (tmps : Array Value) (w : World) (g : Nat) (t : TypeId) (cs : Array Value) (fr : Nat × Nat) (d : TypeDesc)
    (hp : tmps.getD p undef = .pointer (some ⟨g, 0, none⟩)) (hg : w.heap[g]? = some (.cells cs t fr))
    (hu : P.underlying ty = some d) (hd : (match d with | .struct _ | .array _ _ => true | _ => false) = true) (hi : (P.info? ty).map (·.size) = some cs.size) :
    (results fn tmps).run P w = .ok (.agg cs) w := by
  have hp' : tmps[p]?.getD undef = .pointer (some ⟨g, 0, none⟩) := by simpa using hp
  simp [results, h, hp', asAddr, run_loadVar_row w g t ty cs fr d hg hu hd hi]
theorem seven_below {B : Nat} {w0 w : World} {g : Nat} (h : Below B w0 w) (hg : B ≤ g) (a b c d e f k : Value) : Below B w0 (sevenB w g a b c d e f k) :=
  ((((((h.setCell (p := ⟨g, 0, none⟩) hg _).setCell (p := ⟨g, 1, none⟩) hg _).setCell (p := ⟨g, 2, none⟩) hg _).setCell (p := ⟨g, 3, none⟩) hg _).setCell (p := ⟨g, 4, none⟩) hg _).setCell (p := ⟨g, 5, none⟩) hg _).setCell (p := ⟨g, 6, none⟩) hg _
set_option maxHeartbeats 4000000 in
theorem rbare_any (e : Ev) (w : World) :
    Calls Tryd.prog 86 #[evV e] w fun r w' => r = .returned (evV (bareF e)) ∧ Below w.heap.size w w' := by
  obtain ⟨kd, th, tx, pl, v, x, why⟩ := e
  obtain ⟨R, hR⟩ : ∃ R, R = evV (bareF ⟨kd, th, tx, pl, v, x, why⟩) := ⟨_, rfl⟩
  rw [← hR]
  unfold evV
  simp only
  go_enter Tryd.func86, Tryd.ntmps86
  go_upto_region 2 with fail
  obtain ⟨W0, hW0⟩ : ∃ W0, W0 = ((w.alloc (.cells #[.int .u8 kd, .int .i64 th, .int .i64 tx, .int .i64 pl, .int .i64 v, .int .i64 x, .int .u8 why] 46)).alloc (.cells #[.int .u8 0, .int .i64 0, .int .i64 0, .int .i64 0, .int .i64 0, .int .i64 0, .int .u8 0] 46)).alloc (.cells #[.int .u8 kd, .int .i64 th, .int .i64 0, .int .i64 0, .int .i64 0, .int .i64 0, .int .u8 0] 46) := ⟨_, rfl⟩
  obtain ⟨g1, hg1⟩ : ∃ g, g = w.heap.size := ⟨_, rfl⟩
  obtain ⟨g2, hg2⟩ : ∃ g, g = w.heap.size + 1 := ⟨_, rfl⟩
  obtain ⟨g3, hg3⟩ : ∃ g, g = w.heap.size + 1 + 1 := ⟨_, rfl⟩
  have hB : Hid (BoxB w w.heap.size g1 g2 g3 #[.int .u8 kd, .int .i64 th, .int .i64 tx, .int .i64 pl, .int .i64 v, .int .i64 x, .int .u8 why] #[.int .u8 kd, .int .i64 th, .int .i64 0, .int .i64 0, .int .i64 0, .int .i64 0, .int .u8 0] W0) := by
    have z2 : ((w.alloc (.cells #[.int .u8 kd, .int .i64 th, .int .i64 tx, .int .i64 pl, .int .i64 v, .int .i64 x, .int .u8 why] 46)).alloc (.cells #[.int .u8 0, .int .i64 0, .int .i64 0, .int .i64 0, .int .i64 0, .int .i64 0, .int .u8 0] 46)).heap.size = w.heap.size + 1 + 1 := by simp
    show BoxB _ _ _ _ _ _ _ _
    rw [hW0, hg1, hg2, hg3]
    exact ⟨Nat.le_refl _, by omega, by omega, by omega, by omega, (heap_alloc_old _ _ (by omega)).trans ((heap_alloc_old _ _ (by simp)).trans (heap_alloc_new w _)), (heap_alloc_old _ _ (by omega)).trans (heap_alloc2_new w _ _), z2 ▸ heap_alloc_new _ _, (((Below.refl _ _).alloc (Nat.le_refl _) _).alloc (by simp) _).alloc (by rw [z2]; omega) _⟩
  rw [← hW0, ← hg3, ← hg2, ← hg1]
  clear hW0 hg1 hg2 hg3
  obtain ⟨x0, x1, x2, x3, x4, x5, x6⟩ := evat hB.out.r1
  by_cases k1 : kd = 1
  · subst k1
    have y2 : W0.cell? ⟨g3, 2, none⟩ = some (.int .i64 0) := cell_of_row W0 g3 2 _ _ _ hB.out.r3
    have f2 : W0.frozen? ⟨g3, 2, none⟩ = false := frozen_of_row W0 g3 2 _ _ hB.out.r3
    have y4 : W0.cell? ⟨g3, 4, none⟩ = some (.int .i64 0) := cell_of_row W0 g3 4 _ _ _ hB.out.r3
    have f4 : W0.frozen? ⟨g3, 4, none⟩ = false := frozen_of_row W0 g3 4 _ _ hB.out.r3
    have n13 : g1 ≠ g3 := by have := hB.out.h1; have := hB.out.h2; omega
    go_upto_region 4 with fail
    go_region
    go_upto_region 20 with fail
    obtain ⟨wc, hwc⟩ : ∃ wc, wc = ((W0.setCell ⟨g3, 2, none⟩ (.int .i64 tx)).setCell ⟨g3, 4, none⟩ (.int .i64 v)).drew := ⟨_, rfl⟩
    have hC : Hid (BoxB w w.heap.size g1 g2 g3 #[.int .u8 1, .int .i64 th, .int .i64 tx, .int .i64 pl, .int .i64 v, .int .i64 x, .int .u8 why] #[.int .u8 1, .int .i64 th, .int .i64 tx, .int .i64 0, .int .i64 v, .int .i64 0, .int .u8 0] wc) := by rw [hwc]; exact (boxB_drew (boxB_set (boxB_set hB.out 2 _) 4 _))
    rw [← hwc]
    clear hB x0 x1 x2 x3 x4 x5 x6 y2 f2 y4 f4 hwc n13
    obtain ⟨y0, y1, y2, y3, y4, y5, y6⟩ := evat hC.out.r3
    obtain ⟨z0, z1, z2, z3, z4, z5, z6⟩ := evat hC.out.r2
    have fz : ∀ j, wc.frozen? ⟨g2, j, none⟩ = false := fun j => frozen_of_row wc g2 j _ _ hC.out.r2
    have f0 := fz 0
    have f1 := fz 1
    have f2 := fz 2
    have f3 := fz 3
    have f4 := fz 4
    have f5 := fz 5
    have f6 := fz 6
    clear fz
    go_wp2_with fail
    obtain ⟨W8, hW8⟩ : ∃ W8, W8 = sevenB wc g2 (.int .u8 1) (.int .i64 th) (.int .i64 tx) (.int .i64 0) (.int .i64 v) (.int .i64 0) (.int .u8 0) := ⟨_, rfl⟩
    have hw8 := seven_row wc g2 (.int .u8 1) (.int .i64 th) (.int .i64 tx) (.int .i64 0) (.int .i64 v) (.int .i64 0) (.int .u8 0) hC.out.r2
    have hb8 : Below w.heap.size w W8 := by rw [hW8]; exact seven_below hC.out.low hC.out.l2 _ _ _ _ _ _ _
    rw [← hW8] at hw8
    unfold sevenB at hW8
    rw [← hW8]
    clear hW8 y0 y1 y2 y3 y4 y5 y6 z0 z1 z2 z3 z4 z5 z6 f0 f1 f2 f3 f4 f5 f6
    exact bodyPost_ret (v := .agg #[.int .u8 1, .int .i64 th, .int .i64 tx, .int .i64 0, .int .i64 v, .int .i64 0, .int .u8 0]) (results_c1 Tryd.results86 _ W8 g2 46 _ (0, 0) _ rfl hw8 Tryd.underlying46 rfl (by kernel_rfl)) rfl ⟨by rw [hR]; rfl, hb8⟩
  by_cases k2 : kd = 2
  · subst k2
    have y3 : W0.cell? ⟨g3, 3, none⟩ = some (.int .i64 0) := cell_of_row W0 g3 3 _ _ _ hB.out.r3
    have f3 : W0.frozen? ⟨g3, 3, none⟩ = false := frozen_of_row W0 g3 3 _ _ hB.out.r3
    have y4 : W0.cell? ⟨g3, 4, none⟩ = some (.int .i64 0) := cell_of_row W0 g3 4 _ _ _ hB.out.r3
    have f4 : W0.frozen? ⟨g3, 4, none⟩ = false := frozen_of_row W0 g3 4 _ _ hB.out.r3
    have n13 : g1 ≠ g3 := by have := hB.out.h1; have := hB.out.h2; omega
    go_upto_region 6 with fail
    go_region
    go_upto_region 20 with fail
    obtain ⟨wc, hwc⟩ : ∃ wc, wc = ((W0.setCell ⟨g3, 3, none⟩ (.int .i64 pl)).setCell ⟨g3, 4, none⟩ (.int .i64 v)).drew := ⟨_, rfl⟩
    have hC : Hid (BoxB w w.heap.size g1 g2 g3 #[.int .u8 2, .int .i64 th, .int .i64 tx, .int .i64 pl, .int .i64 v, .int .i64 x, .int .u8 why] #[.int .u8 2, .int .i64 th, .int .i64 0, .int .i64 pl, .int .i64 v, .int .i64 0, .int .u8 0] wc) := by rw [hwc]; exact (boxB_drew (boxB_set (boxB_set hB.out 3 _) 4 _))
    rw [← hwc]
    clear hB x0 x1 x2 x3 x4 x5 x6 y3 f3 y4 f4 hwc n13
    obtain ⟨y0, y1, y2, y3, y4, y5, y6⟩ := evat hC.out.r3
    obtain ⟨z0, z1, z2, z3, z4, z5, z6⟩ := evat hC.out.r2
    have fz : ∀ j, wc.frozen? ⟨g2, j, none⟩ = false := fun j => frozen_of_row wc g2 j _ _ hC.out.r2
    have f0 := fz 0
    have f1 := fz 1
    have f2 := fz 2
    have f3 := fz 3
    have f4 := fz 4
    have f5 := fz 5
    have f6 := fz 6
    clear fz
    go_wp2_with fail
    obtain ⟨W8, hW8⟩ : ∃ W8, W8 = sevenB wc g2 (.int .u8 2) (.int .i64 th) (.int .i64 0) (.int .i64 pl) (.int .i64 v) (.int .i64 0) (.int .u8 0) := ⟨_, rfl⟩
    have hw8 := seven_row wc g2 (.int .u8 2) (.int .i64 th) (.int .i64 0) (.int .i64 pl) (.int .i64 v) (.int .i64 0) (.int .u8 0) hC.out.r2
    have hb8 : Below w.heap.size w W8 := by rw [hW8]; exact seven_below hC.out.low hC.out.l2 _ _ _ _ _ _ _
    rw [← hW8] at hw8
    unfold sevenB at hW8
    rw [← hW8]
    clear hW8 y0 y1 y2 y3 y4 y5 y6 z0 z1 z2 z3 z4 z5 z6 f0 f1 f2 f3 f4 f5 f6
    exact bodyPost_ret (v := .agg #[.int .u8 2, .int .i64 th, .int .i64 0, .int .i64 pl, .int .i64 v, .int .i64 0, .int .u8 0]) (results_c1 Tryd.results86 _ W8 g2 46 _ (0, 0) _ rfl hw8 Tryd.underlying46 rfl (by kernel_rfl)) rfl ⟨by rw [hR]; rfl, hb8⟩
  by_cases k3 : kd = 3
  · subst k3
    have y3 : W0.cell? ⟨g3, 3, none⟩ = some (.int .i64 0) := cell_of_row W0 g3 3 _ _ _ hB.out.r3
    have f3 : W0.frozen? ⟨g3, 3, none⟩ = false := frozen_of_row W0 g3 3 _ _ hB.out.r3
    have y5 : W0.cell? ⟨g3, 5, none⟩ = some (.int .i64 0) := cell_of_row W0 g3 5 _ _ _ hB.out.r3
    have f5 : W0.frozen? ⟨g3, 5, none⟩ = false := frozen_of_row W0 g3 5 _ _ hB.out.r3
    have n13 : g1 ≠ g3 := by have := hB.out.h1; have := hB.out.h2; omega
    go_upto_region 9 with fail
    go_region
    go_upto_region 20 with fail
    obtain ⟨wc, hwc⟩ : ∃ wc, wc = ((W0.setCell ⟨g3, 3, none⟩ (.int .i64 pl)).setCell ⟨g3, 5, none⟩ (.int .i64 x)).drew := ⟨_, rfl⟩
    have hC : Hid (BoxB w w.heap.size g1 g2 g3 #[.int .u8 3, .int .i64 th, .int .i64 tx, .int .i64 pl, .int .i64 v, .int .i64 x, .int .u8 why] #[.int .u8 3, .int .i64 th, .int .i64 0, .int .i64 pl, .int .i64 0, .int .i64 x, .int .u8 0] wc) := by rw [hwc]; exact (boxB_drew (boxB_set (boxB_set hB.out 3 _) 5 _))
    rw [← hwc]
    clear hB x0 x1 x2 x3 x4 x5 x6 y3 f3 y5 f5 hwc n13
    obtain ⟨y0, y1, y2, y3, y4, y5, y6⟩ := evat hC.out.r3
    obtain ⟨z0, z1, z2, z3, z4, z5, z6⟩ := evat hC.out.r2
    have fz : ∀ j, wc.frozen? ⟨g2, j, none⟩ = false := fun j => frozen_of_row wc g2 j _ _ hC.out.r2
    have f0 := fz 0
    have f1 := fz 1
    have f2 := fz 2
    have f3 := fz 3
    have f4 := fz 4
    have f5 := fz 5
    have f6 := fz 6
    clear fz
    go_wp2_with fail
    obtain ⟨W8, hW8⟩ : ∃ W8, W8 = sevenB wc g2 (.int .u8 3) (.int .i64 th) (.int .i64 0) (.int .i64 pl) (.int .i64 0) (.int .i64 x) (.int .u8 0) := ⟨_, rfl⟩
    have hw8 := seven_row wc g2 (.int .u8 3) (.int .i64 th) (.int .i64 0) (.int .i64 pl) (.int .i64 0) (.int .i64 x) (.int .u8 0) hC.out.r2
    have hb8 : Below w.heap.size w W8 := by rw [hW8]; exact seven_below hC.out.low hC.out.l2 _ _ _ _ _ _ _
    rw [← hW8] at hw8
    unfold sevenB at hW8
    rw [← hW8]
    clear hW8 y0 y1 y2 y3 y4 y5 y6 z0 z1 z2 z3 z4 z5 z6 f0 f1 f2 f3 f4 f5 f6
    exact bodyPost_ret (v := .agg #[.int .u8 3, .int .i64 th, .int .i64 0, .int .i64 pl, .int .i64 0, .int .i64 x, .int .u8 0]) (results_c1 Tryd.results86 _ W8 g2 46 _ (0, 0) _ rfl hw8 Tryd.underlying46 rfl (by kernel_rfl)) rfl ⟨by rw [hR]; rfl, hb8⟩
  by_cases k8 : kd = 8
  · subst k8
    have y3 : W0.cell? ⟨g3, 3, none⟩ = some (.int .i64 0) := cell_of_row W0 g3 3 _ _ _ hB.out.r3
    have f3 : W0.frozen? ⟨g3, 3, none⟩ = false := frozen_of_row W0 g3 3 _ _ hB.out.r3
    have y5 : W0.cell? ⟨g3, 5, none⟩ = some (.int .i64 0) := cell_of_row W0 g3 5 _ _ _ hB.out.r3
    have f5 : W0.frozen? ⟨g3, 5, none⟩ = false := frozen_of_row W0 g3 5 _ _ hB.out.r3
    have n13 : g1 ≠ g3 := by have := hB.out.h1; have := hB.out.h2; omega
    go_upto_region 9 with fail
    go_region
    go_upto_region 20 with fail
    obtain ⟨wc, hwc⟩ : ∃ wc, wc = ((W0.setCell ⟨g3, 3, none⟩ (.int .i64 pl)).setCell ⟨g3, 5, none⟩ (.int .i64 x)).drew := ⟨_, rfl⟩
    have hC : Hid (BoxB w w.heap.size g1 g2 g3 #[.int .u8 8, .int .i64 th, .int .i64 tx, .int .i64 pl, .int .i64 v, .int .i64 x, .int .u8 why] #[.int .u8 8, .int .i64 th, .int .i64 0, .int .i64 pl, .int .i64 0, .int .i64 x, .int .u8 0] wc) := by rw [hwc]; exact (boxB_drew (boxB_set (boxB_set hB.out 3 _) 5 _))
    rw [← hwc]
    clear hB x0 x1 x2 x3 x4 x5 x6 y3 f3 y5 f5 hwc n13
    obtain ⟨y0, y1, y2, y3, y4, y5, y6⟩ := evat hC.out.r3
    obtain ⟨z0, z1, z2, z3, z4, z5, z6⟩ := evat hC.out.r2
    have fz : ∀ j, wc.frozen? ⟨g2, j, none⟩ = false := fun j => frozen_of_row wc g2 j _ _ hC.out.r2
    have f0 := fz 0
    have f1 := fz 1
    have f2 := fz 2
    have f3 := fz 3
    have f4 := fz 4
    have f5 := fz 5
    have f6 := fz 6
    clear fz
    go_wp2_with fail
    obtain ⟨W8, hW8⟩ : ∃ W8, W8 = sevenB wc g2 (.int .u8 8) (.int .i64 th) (.int .i64 0) (.int .i64 pl) (.int .i64 0) (.int .i64 x) (.int .u8 0) := ⟨_, rfl⟩
    have hw8 := seven_row wc g2 (.int .u8 8) (.int .i64 th) (.int .i64 0) (.int .i64 pl) (.int .i64 0) (.int .i64 x) (.int .u8 0) hC.out.r2
    have hb8 : Below w.heap.size w W8 := by rw [hW8]; exact seven_below hC.out.low hC.out.l2 _ _ _ _ _ _ _
    rw [← hW8] at hw8
    unfold sevenB at hW8
    rw [← hW8]
    clear hW8 y0 y1 y2 y3 y4 y5 y6 z0 z1 z2 z3 z4 z5 z6 f0 f1 f2 f3 f4 f5 f6
    exact bodyPost_ret (v := .agg #[.int .u8 8, .int .i64 th, .int .i64 0, .int .i64 pl, .int .i64 0, .int .i64 x, .int .u8 0]) (results_c1 Tryd.results86 _ W8 g2 46 _ (0, 0) _ rfl hw8 Tryd.underlying46 rfl (by kernel_rfl)) rfl ⟨by rw [hR]; rfl, hb8⟩
  by_cases k10 : kd = 10
  · subst k10
    have y6 : W0.cell? ⟨g3, 6, none⟩ = some (.int .u8 0) := cell_of_row W0 g3 6 _ _ _ hB.out.r3
    have f6 : W0.frozen? ⟨g3, 6, none⟩ = false := frozen_of_row W0 g3 6 _ _ hB.out.r3
    have y3 : W0.cell? ⟨g3, 3, none⟩ = some (.int .i64 0) := cell_of_row W0 g3 3 _ _ _ hB.out.r3
    have f3 : W0.frozen? ⟨g3, 3, none⟩ = false := frozen_of_row W0 g3 3 _ _ hB.out.r3
    have n13 : g1 ≠ g3 := by have := hB.out.h1; have := hB.out.h2; omega
    go_upto_region 19 with fail
    go_region
    go_upto_region 20 with fail
    obtain ⟨wc, hwc⟩ : ∃ wc, wc = ((W0.setCell ⟨g3, 6, none⟩ (.int .u8 why)).setCell ⟨g3, 3, none⟩ (.int .i64 pl)).drew := ⟨_, rfl⟩
    have hC : Hid (BoxB w w.heap.size g1 g2 g3 #[.int .u8 10, .int .i64 th, .int .i64 tx, .int .i64 pl, .int .i64 v, .int .i64 x, .int .u8 why] #[.int .u8 10, .int .i64 th, .int .i64 0, .int .i64 pl, .int .i64 0, .int .i64 0, .int .u8 why] wc) := by rw [hwc]; exact (boxB_drew (boxB_set (boxB_set hB.out 6 _) 3 _))
    rw [← hwc]
    clear hB x0 x1 x2 x3 x4 x5 x6 y6 f6 y3 f3 hwc n13
    obtain ⟨y0, y1, y2, y3, y4, y5, y6⟩ := evat hC.out.r3
    obtain ⟨z0, z1, z2, z3, z4, z5, z6⟩ := evat hC.out.r2
    have fz : ∀ j, wc.frozen? ⟨g2, j, none⟩ = false := fun j => frozen_of_row wc g2 j _ _ hC.out.r2
    have f0 := fz 0
    have f1 := fz 1
    have f2 := fz 2
    have f3 := fz 3
    have f4 := fz 4
    have f5 := fz 5
    have f6 := fz 6
    clear fz
    go_wp2_with fail
    obtain ⟨W8, hW8⟩ : ∃ W8, W8 = sevenB wc g2 (.int .u8 10) (.int .i64 th) (.int .i64 0) (.int .i64 pl) (.int .i64 0) (.int .i64 0) (.int .u8 why) := ⟨_, rfl⟩
    have hw8 := seven_row wc g2 (.int .u8 10) (.int .i64 th) (.int .i64 0) (.int .i64 pl) (.int .i64 0) (.int .i64 0) (.int .u8 why) hC.out.r2
    have hb8 : Below w.heap.size w W8 := by rw [hW8]; exact seven_below hC.out.low hC.out.l2 _ _ _ _ _ _ _
    rw [← hW8] at hw8
    unfold sevenB at hW8
    rw [← hW8]
    clear hW8 y0 y1 y2 y3 y4 y5 y6 z0 z1 z2 z3 z4 z5 z6 f0 f1 f2 f3 f4 f5 f6
    exact bodyPost_ret (v := .agg #[.int .u8 10, .int .i64 th, .int .i64 0, .int .i64 pl, .int .i64 0, .int .i64 0, .int .u8 why]) (results_c1 Tryd.results86 _ W8 g2 46 _ (0, 0) _ rfl hw8 Tryd.underlying46 rfl (by kernel_rfl)) rfl ⟨by rw [hR]; rfl, hb8⟩
  by_cases k4 : kd = 4
  · subst k4
    have y3 : W0.cell? ⟨g3, 3, none⟩ = some (.int .i64 0) := cell_of_row W0 g3 3 _ _ _ hB.out.r3
    have f3 : W0.frozen? ⟨g3, 3, none⟩ = false := frozen_of_row W0 g3 3 _ _ hB.out.r3
    go_upto_region 20 with fail
    obtain ⟨wc, hwc⟩ : ∃ wc, wc = (W0.setCell ⟨g3, 3, none⟩ (.int .i64 pl)) := ⟨_, rfl⟩
    have hC : Hid (BoxB w w.heap.size g1 g2 g3 #[.int .u8 4, .int .i64 th, .int .i64 tx, .int .i64 pl, .int .i64 v, .int .i64 x, .int .u8 why] #[.int .u8 4, .int .i64 th, .int .i64 0, .int .i64 pl, .int .i64 0, .int .i64 0, .int .u8 0] wc) := by rw [hwc]; exact (boxB_set hB.out 3 _)
    rw [← hwc]
    clear hB x0 x1 x2 x3 x4 x5 x6 y3 f3 hwc
    obtain ⟨y0, y1, y2, y3, y4, y5, y6⟩ := evat hC.out.r3
    obtain ⟨z0, z1, z2, z3, z4, z5, z6⟩ := evat hC.out.r2
    have fz : ∀ j, wc.frozen? ⟨g2, j, none⟩ = false := fun j => frozen_of_row wc g2 j _ _ hC.out.r2
    have f0 := fz 0
    have f1 := fz 1
    have f2 := fz 2
    have f3 := fz 3
    have f4 := fz 4
    have f5 := fz 5
    have f6 := fz 6
    clear fz
    go_wp2_with fail
    obtain ⟨W8, hW8⟩ : ∃ W8, W8 = sevenB wc g2 (.int .u8 4) (.int .i64 th) (.int .i64 0) (.int .i64 pl) (.int .i64 0) (.int .i64 0) (.int .u8 0) := ⟨_, rfl⟩
    have hw8 := seven_row wc g2 (.int .u8 4) (.int .i64 th) (.int .i64 0) (.int .i64 pl) (.int .i64 0) (.int .i64 0) (.int .u8 0) hC.out.r2
    have hb8 : Below w.heap.size w W8 := by rw [hW8]; exact seven_below hC.out.low hC.out.l2 _ _ _ _ _ _ _
    rw [← hW8] at hw8
    unfold sevenB at hW8
    rw [← hW8]
    clear hW8 y0 y1 y2 y3 y4 y5 y6 z0 z1 z2 z3 z4 z5 z6 f0 f1 f2 f3 f4 f5 f6
    exact bodyPost_ret (v := .agg #[.int .u8 4, .int .i64 th, .int .i64 0, .int .i64 pl, .int .i64 0, .int .i64 0, .int .u8 0]) (results_c1 Tryd.results86 _ W8 g2 46 _ (0, 0) _ rfl hw8 Tryd.underlying46 rfl (by kernel_rfl)) rfl ⟨by rw [hR]; rfl, hb8⟩
  by_cases k6 : kd = 6
  · subst k6
    have y3 : W0.cell? ⟨g3, 3, none⟩ = some (.int .i64 0) := cell_of_row W0 g3 3 _ _ _ hB.out.r3
    have f3 : W0.frozen? ⟨g3, 3, none⟩ = false := frozen_of_row W0 g3 3 _ _ hB.out.r3
    go_upto_region 20 with fail
    obtain ⟨wc, hwc⟩ : ∃ wc, wc = (W0.setCell ⟨g3, 3, none⟩ (.int .i64 pl)) := ⟨_, rfl⟩
    have hC : Hid (BoxB w w.heap.size g1 g2 g3 #[.int .u8 6, .int .i64 th, .int .i64 tx, .int .i64 pl, .int .i64 v, .int .i64 x, .int .u8 why] #[.int .u8 6, .int .i64 th, .int .i64 0, .int .i64 pl, .int .i64 0, .int .i64 0, .int .u8 0] wc) := by rw [hwc]; exact (boxB_set hB.out 3 _)
    rw [← hwc]
    clear hB x0 x1 x2 x3 x4 x5 x6 y3 f3 hwc
    obtain ⟨y0, y1, y2, y3, y4, y5, y6⟩ := evat hC.out.r3
    obtain ⟨z0, z1, z2, z3, z4, z5, z6⟩ := evat hC.out.r2
    have fz : ∀ j, wc.frozen? ⟨g2, j, none⟩ = false := fun j => frozen_of_row wc g2 j _ _ hC.out.r2
    have f0 := fz 0
    have f1 := fz 1
    have f2 := fz 2
    have f3 := fz 3
    have f4 := fz 4
    have f5 := fz 5
    have f6 := fz 6
    clear fz
    go_wp2_with fail
    obtain ⟨W8, hW8⟩ : ∃ W8, W8 = sevenB wc g2 (.int .u8 6) (.int .i64 th) (.int .i64 0) (.int .i64 pl) (.int .i64 0) (.int .i64 0) (.int .u8 0) := ⟨_, rfl⟩
    have hw8 := seven_row wc g2 (.int .u8 6) (.int .i64 th) (.int .i64 0) (.int .i64 pl) (.int .i64 0) (.int .i64 0) (.int .u8 0) hC.out.r2
    have hb8 : Below w.heap.size w W8 := by rw [hW8]; exact seven_below hC.out.low hC.out.l2 _ _ _ _ _ _ _
    rw [← hW8] at hw8
    unfold sevenB at hW8
    rw [← hW8]
    clear hW8 y0 y1 y2 y3 y4 y5 y6 z0 z1 z2 z3 z4 z5 z6 f0 f1 f2 f3 f4 f5 f6
    exact bodyPost_ret (v := .agg #[.int .u8 6, .int .i64 th, .int .i64 0, .int .i64 pl, .int .i64 0, .int .i64 0, .int .u8 0]) (results_c1 Tryd.results86 _ W8 g2 46 _ (0, 0) _ rfl hw8 Tryd.underlying46 rfl (by kernel_rfl)) rfl ⟨by rw [hR]; rfl, hb8⟩
  by_cases k9 : kd = 9
  · subst k9
    have y3 : W0.cell? ⟨g3, 3, none⟩ = some (.int .i64 0) := cell_of_row W0 g3 3 _ _ _ hB.out.r3
    have f3 : W0.frozen? ⟨g3, 3, none⟩ = false := frozen_of_row W0 g3 3 _ _ hB.out.r3
    go_upto_region 20 with fail
    obtain ⟨wc, hwc⟩ : ∃ wc, wc = (W0.setCell ⟨g3, 3, none⟩ (.int .i64 pl)) := ⟨_, rfl⟩
    have hC : Hid (BoxB w w.heap.size g1 g2 g3 #[.int .u8 9, .int .i64 th, .int .i64 tx, .int .i64 pl, .int .i64 v, .int .i64 x, .int .u8 why] #[.int .u8 9, .int .i64 th, .int .i64 0, .int .i64 pl, .int .i64 0, .int .i64 0, .int .u8 0] wc) := by rw [hwc]; exact (boxB_set hB.out 3 _)
    rw [← hwc]
    clear hB x0 x1 x2 x3 x4 x5 x6 y3 f3 hwc
    obtain ⟨y0, y1, y2, y3, y4, y5, y6⟩ := evat hC.out.r3
    obtain ⟨z0, z1, z2, z3, z4, z5, z6⟩ := evat hC.out.r2
    have fz : ∀ j, wc.frozen? ⟨g2, j, none⟩ = false := fun j => frozen_of_row wc g2 j _ _ hC.out.r2
    have f0 := fz 0
    have f1 := fz 1
    have f2 := fz 2
    have f3 := fz 3
    have f4 := fz 4
    have f5 := fz 5
    have f6 := fz 6
    clear fz
    go_wp2_with fail
    obtain ⟨W8, hW8⟩ : ∃ W8, W8 = sevenB wc g2 (.int .u8 9) (.int .i64 th) (.int .i64 0) (.int .i64 pl) (.int .i64 0) (.int .i64 0) (.int .u8 0) := ⟨_, rfl⟩
    have hw8 := seven_row wc g2 (.int .u8 9) (.int .i64 th) (.int .i64 0) (.int .i64 pl) (.int .i64 0) (.int .i64 0) (.int .u8 0) hC.out.r2
    have hb8 : Below w.heap.size w W8 := by rw [hW8]; exact seven_below hC.out.low hC.out.l2 _ _ _ _ _ _ _
    rw [← hW8] at hw8
    unfold sevenB at hW8
    rw [← hW8]
    clear hW8 y0 y1 y2 y3 y4 y5 y6 z0 z1 z2 z3 z4 z5 z6 f0 f1 f2 f3 f4 f5 f6
    exact bodyPost_ret (v := .agg #[.int .u8 9, .int .i64 th, .int .i64 0, .int .i64 pl, .int .i64 0, .int .i64 0, .int .u8 0]) (results_c1 Tryd.results86 _ W8 g2 46 _ (0, 0) _ rfl hw8 Tryd.underlying46 rfl (by kernel_rfl)) rfl ⟨by rw [hR]; rfl, hb8⟩
  by_cases k11 : kd = 11
  · subst k11
    have y3 : W0.cell? ⟨g3, 3, none⟩ = some (.int .i64 0) := cell_of_row W0 g3 3 _ _ _ hB.out.r3
    have f3 : W0.frozen? ⟨g3, 3, none⟩ = false := frozen_of_row W0 g3 3 _ _ hB.out.r3
    go_upto_region 20 with fail
    obtain ⟨wc, hwc⟩ : ∃ wc, wc = (W0.setCell ⟨g3, 3, none⟩ (.int .i64 pl)) := ⟨_, rfl⟩
    have hC : Hid (BoxB w w.heap.size g1 g2 g3 #[.int .u8 11, .int .i64 th, .int .i64 tx, .int .i64 pl, .int .i64 v, .int .i64 x, .int .u8 why] #[.int .u8 11, .int .i64 th, .int .i64 0, .int .i64 pl, .int .i64 0, .int .i64 0, .int .u8 0] wc) := by rw [hwc]; exact (boxB_set hB.out 3 _)
    rw [← hwc]
    clear hB x0 x1 x2 x3 x4 x5 x6 y3 f3 hwc
    obtain ⟨y0, y1, y2, y3, y4, y5, y6⟩ := evat hC.out.r3
    obtain ⟨z0, z1, z2, z3, z4, z5, z6⟩ := evat hC.out.r2
    have fz : ∀ j, wc.frozen? ⟨g2, j, none⟩ = false := fun j => frozen_of_row wc g2 j _ _ hC.out.r2
    have f0 := fz 0
    have f1 := fz 1
    have f2 := fz 2
    have f3 := fz 3
    have f4 := fz 4
    have f5 := fz 5
    have f6 := fz 6
    clear fz
    go_wp2_with fail
    obtain ⟨W8, hW8⟩ : ∃ W8, W8 = sevenB wc g2 (.int .u8 11) (.int .i64 th) (.int .i64 0) (.int .i64 pl) (.int .i64 0) (.int .i64 0) (.int .u8 0) := ⟨_, rfl⟩
    have hw8 := seven_row wc g2 (.int .u8 11) (.int .i64 th) (.int .i64 0) (.int .i64 pl) (.int .i64 0) (.int .i64 0) (.int .u8 0) hC.out.r2
    have hb8 : Below w.heap.size w W8 := by rw [hW8]; exact seven_below hC.out.low hC.out.l2 _ _ _ _ _ _ _
    rw [← hW8] at hw8
    unfold sevenB at hW8
    rw [← hW8]
    clear hW8 y0 y1 y2 y3 y4 y5 y6 z0 z1 z2 z3 z4 z5 z6 f0 f1 f2 f3 f4 f5 f6
    exact bodyPost_ret (v := .agg #[.int .u8 11, .int .i64 th, .int .i64 0, .int .i64 pl, .int .i64 0, .int .i64 0, .int .u8 0]) (results_c1 Tryd.results86 _ W8 g2 46 _ (0, 0) _ rfl hw8 Tryd.underlying46 rfl (by kernel_rfl)) rfl ⟨by rw [hR]; rfl, hb8⟩
  by_cases k5 : kd = 5
  · subst k5
    have y4 : W0.cell? ⟨g3, 4, none⟩ = some (.int .i64 0) := cell_of_row W0 g3 4 _ _ _ hB.out.r3
    have f4 : W0.frozen? ⟨g3, 4, none⟩ = false := frozen_of_row W0 g3 4 _ _ hB.out.r3
    go_upto_region 20 with fail
    obtain ⟨wc, hwc⟩ : ∃ wc, wc = (W0.setCell ⟨g3, 4, none⟩ (.int .i64 v)) := ⟨_, rfl⟩
    have hC : Hid (BoxB w w.heap.size g1 g2 g3 #[.int .u8 5, .int .i64 th, .int .i64 tx, .int .i64 pl, .int .i64 v, .int .i64 x, .int .u8 why] #[.int .u8 5, .int .i64 th, .int .i64 0, .int .i64 0, .int .i64 v, .int .i64 0, .int .u8 0] wc) := by rw [hwc]; exact (boxB_set hB.out 4 _)
    rw [← hwc]
    clear hB x0 x1 x2 x3 x4 x5 x6 y4 f4 hwc
    obtain ⟨y0, y1, y2, y3, y4, y5, y6⟩ := evat hC.out.r3
    obtain ⟨z0, z1, z2, z3, z4, z5, z6⟩ := evat hC.out.r2
    have fz : ∀ j, wc.frozen? ⟨g2, j, none⟩ = false := fun j => frozen_of_row wc g2 j _ _ hC.out.r2
    have f0 := fz 0
    have f1 := fz 1
    have f2 := fz 2
    have f3 := fz 3
    have f4 := fz 4
    have f5 := fz 5
    have f6 := fz 6
    clear fz
    go_wp2_with fail
    obtain ⟨W8, hW8⟩ : ∃ W8, W8 = sevenB wc g2 (.int .u8 5) (.int .i64 th) (.int .i64 0) (.int .i64 0) (.int .i64 v) (.int .i64 0) (.int .u8 0) := ⟨_, rfl⟩
    have hw8 := seven_row wc g2 (.int .u8 5) (.int .i64 th) (.int .i64 0) (.int .i64 0) (.int .i64 v) (.int .i64 0) (.int .u8 0) hC.out.r2
    have hb8 : Below w.heap.size w W8 := by rw [hW8]; exact seven_below hC.out.low hC.out.l2 _ _ _ _ _ _ _
    rw [← hW8] at hw8
    unfold sevenB at hW8
    rw [← hW8]
    clear hW8 y0 y1 y2 y3 y4 y5 y6 z0 z1 z2 z3 z4 z5 z6 f0 f1 f2 f3 f4 f5 f6
    exact bodyPost_ret (v := .agg #[.int .u8 5, .int .i64 th, .int .i64 0, .int .i64 0, .int .i64 v, .int .i64 0, .int .u8 0]) (results_c1 Tryd.results86 _ W8 g2 46 _ (0, 0) _ rfl hw8 Tryd.underlying46 rfl (by kernel_rfl)) rfl ⟨by rw [hR]; rfl, hb8⟩
  by_cases k7 : kd = 7
  · subst k7
    have y4 : W0.cell? ⟨g3, 4, none⟩ = some (.int .i64 0) := cell_of_row W0 g3 4 _ _ _ hB.out.r3
    have f4 : W0.frozen? ⟨g3, 4, none⟩ = false := frozen_of_row W0 g3 4 _ _ hB.out.r3
    go_upto_region 20 with fail
    obtain ⟨wc, hwc⟩ : ∃ wc, wc = (W0.setCell ⟨g3, 4, none⟩ (.int .i64 v)) := ⟨_, rfl⟩
    have hC : Hid (BoxB w w.heap.size g1 g2 g3 #[.int .u8 7, .int .i64 th, .int .i64 tx, .int .i64 pl, .int .i64 v, .int .i64 x, .int .u8 why] #[.int .u8 7, .int .i64 th, .int .i64 0, .int .i64 0, .int .i64 v, .int .i64 0, .int .u8 0] wc) := by rw [hwc]; exact (boxB_set hB.out 4 _)
    rw [← hwc]
    clear hB x0 x1 x2 x3 x4 x5 x6 y4 f4 hwc
    obtain ⟨y0, y1, y2, y3, y4, y5, y6⟩ := evat hC.out.r3
    obtain ⟨z0, z1, z2, z3, z4, z5, z6⟩ := evat hC.out.r2
    have fz : ∀ j, wc.frozen? ⟨g2, j, none⟩ = false := fun j => frozen_of_row wc g2 j _ _ hC.out.r2
    have f0 := fz 0
    have f1 := fz 1
    have f2 := fz 2
    have f3 := fz 3
    have f4 := fz 4
    have f5 := fz 5
    have f6 := fz 6
    clear fz
    go_wp2_with fail
    obtain ⟨W8, hW8⟩ : ∃ W8, W8 = sevenB wc g2 (.int .u8 7) (.int .i64 th) (.int .i64 0) (.int .i64 0) (.int .i64 v) (.int .i64 0) (.int .u8 0) := ⟨_, rfl⟩
    have hw8 := seven_row wc g2 (.int .u8 7) (.int .i64 th) (.int .i64 0) (.int .i64 0) (.int .i64 v) (.int .i64 0) (.int .u8 0) hC.out.r2
    have hb8 : Below w.heap.size w W8 := by rw [hW8]; exact seven_below hC.out.low hC.out.l2 _ _ _ _ _ _ _
    rw [← hW8] at hw8
    unfold sevenB at hW8
    rw [← hW8]
    clear hW8 y0 y1 y2 y3 y4 y5 y6 z0 z1 z2 z3 z4 z5 z6 f0 f1 f2 f3 f4 f5 f6
    exact bodyPost_ret (v := .agg #[.int .u8 7, .int .i64 th, .int .i64 0, .int .i64 0, .int .i64 v, .int .i64 0, .int .u8 0]) (results_c1 Tryd.results86 _ W8 g2 46 _ (0, 0) _ rfl hw8 Tryd.underlying46 rfl (by kernel_rfl)) rfl ⟨by rw [hR]; rfl, hb8⟩
  have hbf : bareF ⟨kd, th, tx, pl, v, x, why⟩ = ⟨kd, th, 0, 0, 0, 0, 0⟩ := by simp [bareF, k1, k2, k3, k4, k5, k6, k7, k8, k9, k10, k11]
  rw [hbf] at hR
  have q1 : (kd == 1) = false := beq_eq_false_iff_ne.2 k1
  have q2 : (kd == 2) = false := beq_eq_false_iff_ne.2 k2
  have q3 : (kd == 3) = false := beq_eq_false_iff_ne.2 k3
  have q4 : (kd == 4) = false := beq_eq_false_iff_ne.2 k4
  have q5 : (kd == 5) = false := beq_eq_false_iff_ne.2 k5
  have q6 : (kd == 6) = false := beq_eq_false_iff_ne.2 k6
  have q7 : (kd == 7) = false := beq_eq_false_iff_ne.2 k7
  have q8 : (kd == 8) = false := beq_eq_false_iff_ne.2 k8
  have q9 : (kd == 9) = false := beq_eq_false_iff_ne.2 k9
  have q10 : (kd == 10) = false := beq_eq_false_iff_ne.2 k10
  have q11 : (kd == 11) = false := beq_eq_false_iff_ne.2 k11
  clear hbf k1 k2 k3 k4 k5 k6 k7 k8 k9 k10 k11
  go_upto_region 20 with fail
  obtain ⟨wc, hwc⟩ : ∃ wc, wc = W0 := ⟨_, rfl⟩
  have hC : Hid (BoxB w w.heap.size g1 g2 g3 #[.int .u8 kd, .int .i64 th, .int .i64 tx, .int .i64 pl, .int .i64 v, .int .i64 x, .int .u8 why] #[.int .u8 kd, .int .i64 th, .int .i64 0, .int .i64 0, .int .i64 0, .int .i64 0, .int .u8 0] wc) := by rw [hwc]; exact hB.out
  subst hwc
  clear hB x0 x1 x2 x3 x4 x5 x6 
  obtain ⟨y0, y1, y2, y3, y4, y5, y6⟩ := evat hC.out.r3
  obtain ⟨z0, z1, z2, z3, z4, z5, z6⟩ := evat hC.out.r2
  have fz : ∀ j, wc.frozen? ⟨g2, j, none⟩ = false := fun j => frozen_of_row wc g2 j _ _ hC.out.r2
  have f0 := fz 0
  have f1 := fz 1
  have f2 := fz 2
  have f3 := fz 3
  have f4 := fz 4
  have f5 := fz 5
  have f6 := fz 6
  clear fz
  go_wp2_with fail
  obtain ⟨W8, hW8⟩ : ∃ W8, W8 = sevenB wc g2 (.int .u8 kd) (.int .i64 th) (.int .i64 0) (.int .i64 0) (.int .i64 0) (.int .i64 0) (.int .u8 0) := ⟨_, rfl⟩
  have hw8 := seven_row wc g2 (.int .u8 kd) (.int .i64 th) (.int .i64 0) (.int .i64 0) (.int .i64 0) (.int .i64 0) (.int .u8 0) hC.out.r2
  have hb8 : Below w.heap.size w W8 := by rw [hW8]; exact seven_below hC.out.low hC.out.l2 _ _ _ _ _ _ _
  rw [← hW8] at hw8
  unfold sevenB at hW8
  rw [← hW8]
  clear hW8 y0 y1 y2 y3 y4 y5 y6 z0 z1 z2 z3 z4 z5 z6 f0 f1 f2 f3 f4 f5 f6
  exact bodyPost_ret (v := .agg #[.int .u8 kd, .int .i64 th, .int .i64 0, .int .i64 0, .int .i64 0, .int .i64 0, .int .u8 0]) (results_c1 Tryd.results86 _ W8 g2 46 _ (0, 0) _ rfl hw8 Tryd.underlying46 rfl (by kernel_rfl)) rfl ⟨by rw [hR]; rfl, hb8⟩
end Go.Proofs.YtkfcglgikemefaaDoor
namespace Go.Proofs.YtkfcglgikemefaaDoor
set_option maxRecDepth 100000
open Go.RowKit
set_option linter.unusedVariables false
section
variable {a : Act} {w : World} {K : Act → World → Prop} {Q : Exit → Act → World → Prop} {o : Oper}
theorem v_moveS (x : Nat) {v : Value} (ho : o.op = .move (.tmp x)) (hx : a.tmps[x]?.getD undef = v) (hK : K (a.put o.dst (v)) w) : Oper.wp Tryd.prog o a w K Q := by
  obtain ⟨dst, op, type, pos, after, guard⟩ := o
  have ho' : op = _ := ho
  subst ho'
  clear ho
  go_simp
  exact hK
theorem v_assignS (x : Nat) {v : Value} (ho : o.op = .assign (.tmp x)) (hx : a.tmps[x]?.getD undef = v) (hK : K (a.put o.dst (v)) w) : Oper.wp Tryd.prog o a w K Q := by
  obtain ⟨dst, op, type, pos, after, guard⟩ := o
  have ho' : op = _ := ho
  subst ho'
  clear ho
  go_simp
  exact hK
theorem v_field0 (x : Nat) {g : Nat} (ho : o.op = .fieldAddr 46 (.tmp x) 0) (hx : a.tmps[x]?.getD undef = .pointer (some ⟨g, 0, none⟩)) (hK : K (a.put o.dst (.pointer (some ⟨g, 0, none⟩))) w) : Oper.wp Tryd.prog o a w K Q := by
  obtain ⟨dst, op, type, pos, after, guard⟩ := o
  have ho' : op = _ := ho
  subst ho'
  clear ho
  go_simp
  exact hK
theorem v_loadB (x : Nat) {q : Addr} {n : Int} (ho : o.op = .load 5 (.tmp x)) (hx : a.tmps[x]?.getD undef = .pointer (some q)) (hc : w.cell? q = some (.int .u8 n)) (hK : K (a.put o.dst (.int .u8 n)) w) : Oper.wp Tryd.prog o a w K Q := by
  obtain ⟨dst, op, type, pos, after, guard⟩ := o
  have ho' : op = _ := ho
  subst ho'
  clear ho
  go_simp
  exact hK
theorem v_loadb (x : Nat) {q : Addr} {n : Bool} (ho : o.op = .load 4 (.tmp x)) (hx : a.tmps[x]?.getD undef = .pointer (some q)) (hc : w.cell? q = some (.bool n)) (hK : K (a.put o.dst (.bool n)) w) : Oper.wp Tryd.prog o a w K Q := by
  obtain ⟨dst, op, type, pos, after, guard⟩ := o
  have ho' : op = _ := ho
  subst ho'
  clear ho
  go_simp
  exact hK
theorem v_eqlc (x : Nat) {n c : Int} (ho : o.op = .binOp .eql 5 (.tmp x) (.const (.int .u8 c)) 5) (hx : a.tmps[x]?.getD undef = .int .u8 n) {r : Bool} (hr : (n == c) = r) (hK : K (a.put o.dst (.bool r)) w) : Oper.wp Tryd.prog o a w K Q := by
  obtain ⟨dst, op, type, pos, after, guard⟩ := o
  have ho' : op = _ := ho
  subst ho'
  clear ho
  subst hr
  go_simp
  exact hK
theorem v_eqlu (x y : Nat) {n m : Int} (ho : o.op = .binOp .eql 5 (.tmp x) (.tmp y) 5) (hx : a.tmps[x]?.getD undef = .int .u8 n) (hy : a.tmps[y]?.getD undef = .int .u8 m) {r : Bool} (hr : (n == m) = r) (hK : K (a.put o.dst (.bool r)) w) : Oper.wp Tryd.prog o a w K Q := by
  obtain ⟨dst, op, type, pos, after, guard⟩ := o
  have ho' : op = _ := ho
  subst ho'
  clear ho
  subst hr
  go_simp
  exact hK
theorem v_eqli (x y : Nat) {n m : Int} (ho : o.op = .binOp .eql 3 (.tmp x) (.tmp y) 3) (hx : a.tmps[x]?.getD undef = .int .i64 n) (hy : a.tmps[y]?.getD undef = .int .i64 m) {r : Bool} (hr : (n == m) = r) (hK : K (a.put o.dst (.bool r)) w) : Oper.wp Tryd.prog o a w K Q := by
  obtain ⟨dst, op, type, pos, after, guard⟩ := o
  have ho' : op = _ := ho
  subst ho'
  clear ho
  subst hr
  go_simp
  exact hK
theorem v_eqlb (x y : Nat) {n m : Bool} (ho : o.op = .binOp .eql 4 (.tmp x) (.tmp y) 4) (hx : a.tmps[x]?.getD undef = .bool n) (hy : a.tmps[y]?.getD undef = .bool m) {r : Bool} (hr : (n == m) = r) (hK : K (a.put o.dst (.bool r)) w) : Oper.wp Tryd.prog o a w K Q := by
  obtain ⟨dst, op, type, pos, after, guard⟩ := o
  have ho' : op = _ := ho
  subst ho'
  clear ho
  subst hr
  go_simp
  exact hK
theorem v_neqb (x y : Nat) {n m : Bool} (ho : o.op = .binOp .neq 4 (.tmp x) (.tmp y) 4) (hx : a.tmps[x]?.getD undef = .bool n) (hy : a.tmps[y]?.getD undef = .bool m) {r : Bool} (hr : (n != m) = r) (hK : K (a.put o.dst (.bool r)) w) : Oper.wp Tryd.prog o a w K Q := by
  obtain ⟨dst, op, type, pos, after, guard⟩ := o
  have ho' : op = _ := ho
  subst ho'
  clear ho
  subst hr
  go_simp
  exact hK
theorem v_eqls (x y : Nat) {n m : ByteArray} (ho : o.op = .binOp .eql 9 (.tmp x) (.tmp y) 9) (hx : a.tmps[x]?.getD undef = .string n) (hy : a.tmps[y]?.getD undef = .string m) {r : Bool} (hr : (n.toList == m.toList) = r) (hK : K (a.put o.dst (.bool r)) w) : Oper.wp Tryd.prog o a w K Q := by
  obtain ⟨dst, op, type, pos, after, guard⟩ := o
  have ho' : op = _ := ho
  subst ho'
  clear ho
  subst hr
  go_simp
  exact hK
theorem v_orT (x y : Nat) (ho : o.op = .pick (.tmp x) (.const (.bool true)) (.tmp y)) (hx : a.tmps[x]?.getD undef = .bool true) (hK : K (a.put o.dst (.bool true)) w) : Oper.wp Tryd.prog o a w K Q := by
  obtain ⟨dst, op, type, pos, after, guard⟩ := o
  have ho' : op = _ := ho
  subst ho'
  clear ho
  go_simp
  exact hK
theorem v_orF (x y : Nat) {v : Value} (ho : o.op = .pick (.tmp x) (.const (.bool true)) (.tmp y)) (hx : a.tmps[x]?.getD undef = .bool false) (hy : a.tmps[y]?.getD undef = v) (hK : K (a.put o.dst (v)) w) : Oper.wp Tryd.prog o a w K Q := by
  obtain ⟨dst, op, type, pos, after, guard⟩ := o
  have ho' : op = _ := ho
  subst ho'
  clear ho
  go_simp
  exact hK
theorem v_andT (x y : Nat) {v : Value} (ho : o.op = .pick (.tmp x) (.tmp y) (.const (.bool false))) (hx : a.tmps[x]?.getD undef = .bool true) (hy : a.tmps[y]?.getD undef = v) (hK : K (a.put o.dst (v)) w) : Oper.wp Tryd.prog o a w K Q := by
  obtain ⟨dst, op, type, pos, after, guard⟩ := o
  have ho' : op = _ := ho
  subst ho'
  clear ho
  go_simp
  exact hK
theorem v_loadE (x : Nat) {g : Nat} {cs : Array Value} (ho : o.op = .load 46 (.tmp x)) (hx : a.tmps[x]?.getD undef = .pointer (some ⟨g, 0, none⟩)) (hg : w.heap[g]? = some (.cells cs 46 (0, 0))) (hs : cs.size = 7) (hK : K (a.put o.dst (.agg cs)) w) : Oper.wp Tryd.prog o a w K Q :=
  wp_load_row _ _ ho g (by simpa [Act.eval, Array.getD_eq_getD_getElem?] using hx) 46 cs (0, 0) _ hg Tryd.underlying46 rfl (by rw [hs]; kernel_rfl) hK
theorem v_may (x y z u0 : Nat) {u : Value} (ho : o.op = .call { callee := .value (.func 46), args := #[.tmp x, .tmp y, .tmp z, .tmp u0], argTypes := #[46, 3, 3, 3] }) {v0 : Value} (h0 : a.tmps[x]?.getD undef = v0) {v1 : Value} (h1 : a.tmps[y]?.getD undef = v1) {v2 : Value} (h2 : a.tmps[z]?.getD undef = v2) {v3 : Value} (h3 : a.tmps[u0]?.getD undef = v3) (hc : Calls Tryd.prog 46 #[v0, v1, v2, v3] w fun r w' => r = .returned u ∧ Below w.heap.size w w') (hK : ∀ w', Below w.heap.size w w' → K (a.put o.dst u) w') : Oper.wp Tryd.prog o a w K Q := by
  obtain ⟨dst, op, type, pos, after, guard⟩ := o
  have ho' : op = _ := ho
  subst ho'
  clear ho
  have h1 := Tryd.func46
  have HC := Lib.hid hc
  clear hc
  go_simp
  refine HC.out.mono ?_
  rintro r w' ⟨rfl, hb⟩
  exact hK w' hb
theorem v_may342 (x : Nat) {u : Value} (ho : o.op = .call { callee := .value (.func 46), args := #[.tmp x, .const (.int .i64 3), .const (.int .i64 4), .const (.int .i64 2)], argTypes := #[46, 3, 3, 3] }) {v0 : Value} (h0 : a.tmps[x]?.getD undef = v0) (hc : Calls Tryd.prog 46 #[v0, (.int .i64 3), (.int .i64 4), (.int .i64 2)] w fun r w' => r = .returned u ∧ Below w.heap.size w w') (hK : ∀ w', Below w.heap.size w w' → K (a.put o.dst u) w') : Oper.wp Tryd.prog o a w K Q := by
  obtain ⟨dst, op, type, pos, after, guard⟩ := o
  have ho' : op = _ := ho
  subst ho'
  clear ho
  have h1 := Tryd.func46
  have HC := Lib.hid hc
  clear hc
  go_simp
  refine HC.out.mono ?_
  rintro r w' ⟨rfl, hb⟩
  exact hK w' hb
theorem v_mayR (x y z u0 : Nat) {u : Value} (ho : o.op = .call { callee := .value (.func 48), args := #[.tmp x, .tmp y, .tmp z, .tmp u0], argTypes := #[46, 3, 3, 3] }) {v0 : Value} (h0 : a.tmps[x]?.getD undef = v0) {v1 : Value} (h1 : a.tmps[y]?.getD undef = v1) {v2 : Value} (h2 : a.tmps[z]?.getD undef = v2) {v3 : Value} (h3 : a.tmps[u0]?.getD undef = v3) (hc : Calls Tryd.prog 48 #[v0, v1, v2, v3] w fun r w' => r = .returned u ∧ Below w.heap.size w w') (hK : ∀ w', Below w.heap.size w w' → K (a.put o.dst u) w') : Oper.wp Tryd.prog o a w K Q := by
  obtain ⟨dst, op, type, pos, after, guard⟩ := o
  have ho' : op = _ := ho
  subst ho'
  clear ho
  have h1 := Tryd.func48
  have HC := Lib.hid hc
  clear hc
  go_simp
  refine HC.out.mono ?_
  rintro r w' ⟨rfl, hb⟩
  exact hK w' hb
theorem v_name (x : Nat) {u : Value} (ho : o.op = .call { callee := .value (.func 78), args := #[.tmp x], argTypes := #[5] }) {v0 : Value} (h0 : a.tmps[x]?.getD undef = v0) (hc : Calls Tryd.prog 78 #[v0] w fun r w' => r = .returned u ∧ Below w.heap.size w w') (hK : ∀ w', Below w.heap.size w w' → K (a.put o.dst u) w') : Oper.wp Tryd.prog o a w K Q := by
  obtain ⟨dst, op, type, pos, after, guard⟩ := o
  have ho' : op = _ := ho
  subst ho'
  clear ho
  have h1 := Tryd.func78
  have HC := Lib.hid hc
  clear hc
  go_simp
  refine HC.out.mono ?_
  rintro r w' ⟨rfl, hb⟩
  exact hK w' hb
theorem v_nameR (x : Nat) {u : Value} (ho : o.op = .call { callee := .value (.func 85), args := #[.tmp x], argTypes := #[5] }) {v0 : Value} (h0 : a.tmps[x]?.getD undef = v0) (hc : Calls Tryd.prog 85 #[v0] w fun r w' => r = .returned u ∧ Below w.heap.size w w') (hK : ∀ w', Below w.heap.size w w' → K (a.put o.dst u) w') : Oper.wp Tryd.prog o a w K Q := by
  obtain ⟨dst, op, type, pos, after, guard⟩ := o
  have ho' : op = _ := ho
  subst ho'
  clear ho
  have h1 := Tryd.func85
  have HC := Lib.hid hc
  clear hc
  go_simp
  refine HC.out.mono ?_
  rintro r w' ⟨rfl, hb⟩
  exact hK w' hb
end
end Go.Proofs.YtkfcglgikemefaaDoor
namespace Go.Proofs.YtkfcglgikemefaaDoor
set_option maxRecDepth 100000
open Go.RowKit
set_option linter.unusedVariables false
section
variable {F : Fence} {n : Nat} {P : Program} {ops : Array Oper} {Q : Exit → Act → World → Prop} {md : Region.Mode}
theorem wpAnyIn_inv {I : Array Bool → Act → World → Prop} (hsz : ∀ listed a w, I listed a w → listed.size = ops.size)
    (hstep : ∀ listed a w, I listed a w → ∀ i ∈ Region.ready md ops listed, wpOpIn F n P ops Q i (fun a' w' => I (listed.setIfInBounds i true) a' w') a w)
    (hend : ∀ listed a w, I listed a w → Region.ready md ops listed = [] → Q .normal a w) :
    ∀ (fuel : Nat) (listed : Array Bool) (a : Act) (w : World), I listed a w → cntR (fun j => !listed.getD j true) ops.size ≤ fuel → wpAnyIn F n P md ops Q fuel listed a w := by
  intro fuel
  induction fuel with
  | zero =>
    intro listed a w h hc
    have hr : Region.ready md ops listed = [] := ready_none fun j hj => by
      have := cntR_zero _ _ (Nat.le_zero.1 hc) j hj
      simpa using this
    exact ⟨hr, hend _ _ _ h hr⟩
  | succ fuel ih =>
    intro listed a w h hc
    refine ⟨hend _ _ _ h, fun i hi => wpOpIn_mono (fun a' w' h' => ih _ a' w' h' ?_) (hstep _ _ _ h i hi)⟩
    obtain ⟨h1, h2, _⟩ := ready_of hi
    have hs := hsz _ _ _ h
    have := cntR_less (fun j => !listed.getD j true) (fun j => !(listed.setIfInBounds i true).getD j true) i ops.size h1 (fun j hj => by
      show (!(listed.setIfInBounds i true).getD j true) = !listed.getD j true
      rw [Array.getD_eq_getD_getElem?, Array.getD_eq_getD_getElem?, Array.getElem?_setIfInBounds_ne (by omega)]) (by simpa using h2) (by
      show (!(listed.setIfInBounds i true).getD i true) = false
      rw [Array.getD_eq_getD_getElem?, Array.getElem?_setIfInBounds_self_of_lt (by omega)]
      rfl)
    omega
/-- Each operation but the last has a temporary of its own, and waits for such alone as stand ahead; the last has none, and waits for all. -/
def okDet (p L : Nat) (ops : Array Oper) : Bool := ops.size == L + 1 && ((List.range L).all fun i => match ops[i]? with
  | some o => o.dst == some (p + i) && o.guard.isNone && o.after.all fun e => !Region.binds .any e || decide (e.on < i)
  | none => false) && match ops[L]? with
  | some o => o.dst.isNone && o.guard.isNone && (o.after.all fun e => !Region.binds .any e || decide (e.on < L)) && (List.range L).all fun j => o.after.any fun e => Region.binds .any e && e.on == j
  | none => false
theorem getD_none {l : Array Bool} {i : Nat} (h : i < l.size) (b c : Bool) : l.getD i b = l.getD i c := by
  rw [Array.getD_eq_getD_getElem?, Array.getD_eq_getD_getElem?, Array.getElem?_eq_getElem h]
  rfl
theorem wpIn_region_det {id : Nat} (vs : List Value) (W : World) (T : Array Value) (p : Nat) (hp : p + vs.length ≤ T.size) (hm : P.follows .mixedOrders = true) (hops : okDet p vs.length ops = true)
    (hstep : ∀ i o, ops[i]? = some o → i < vs.length → ∀ (a : Act) (w : World), (∀ t, t < p → a.eval (.tmp t) = T.getD t undef) → (∀ e ∈ o.after.toList, Region.binds .any e = true → a.eval (.tmp (p + e.on)) = vs.getD e.on undef) → Below W.heap.size W w →
      ∀ K : Act → World → Prop, (∀ w', Below w.heap.size w w' → K (a.put o.dst (vs.getD i undef)) w') → Oper.wpIn F n P o a w K Q)
    (hlast : ∀ o, ops[vs.length]? = some o → ∀ w, Below W.heap.size W w → Oper.wpIn F n P o (fr (T.toList.take p) vs (T.toList.drop (p + vs.length))) w (fun a w => Q .normal a w) Q) :
    (Code.region id ops true).wpIn F n P Q ⟨T, []⟩ W := by
  have hl : (T.toList.take p).length = p := by simp; omega
  have hfr : (⟨T, []⟩ : Act) = fr (T.toList.take p) ((T.toList.drop p).take vs.length) (T.toList.drop (p + vs.length)) := by
    unfold fr
    congr 1
    apply Array.ext'
    rw [List.toList_toArray, List.append_assoc, ← List.drop_drop, List.take_append_drop, List.take_append_drop]
  unfold okDet at hops
  simp only [Bool.and_eq_true, beq_iff_eq] at hops
  obtain ⟨⟨hsz, hbase⟩, hla⟩ := hops
  have hb : ∀ i o, i < vs.length → ops[i]? = some o → o.dst = some (p + i) ∧ o.guard = none ∧ ∀ e ∈ o.after.toList, Region.binds .any e = true → e.on < i := by
    intro i o hi ho
    have h1 := List.all_eq_true.1 hbase i (by simpa using hi)
    rw [ho] at h1
    simp only [Bool.and_eq_true, beq_iff_eq, Option.isNone_iff_eq_none] at h1
    refine ⟨h1.1.1, h1.1.2, fun e he hbn => ?_⟩
    have h2 := Array.all_eq_true'.1 h1.2 e (by simpa using he)
    simpa [hbn] using h2
  have hL : ∃ o, ops[vs.length]? = some o ∧ o.dst = none ∧ o.guard = none ∧ (∀ e ∈ o.after.toList, Region.binds .any e = true → e.on < vs.length) ∧ ∀ j, j < vs.length → ∃ e ∈ o.after.toList, Region.binds .any e = true ∧ e.on = j := by
    cases ho : ops[vs.length]? with
    | none => rw [ho] at hla; cases hla
    | some o =>
      rw [ho] at hla
      simp only [Bool.and_eq_true, Option.isNone_iff_eq_none] at hla
      obtain ⟨⟨⟨h1, h2⟩, h3⟩, h4⟩ := hla
      refine ⟨o, rfl, h1, h2, fun e he hbn => ?_, fun j hj => ?_⟩
      · have h5 := Array.all_eq_true'.1 h3 e (by simpa using he)
        simpa [hbn] using h5
      · have h5 := List.all_eq_true.1 h4 j (by simpa using hj)
        obtain ⟨e, he, h6⟩ := Array.any_eq_true'.1 h5
        simp only [Bool.and_eq_true, beq_iff_eq] at h6
        exact ⟨e, by simpa using he, h6.1, h6.2⟩
  obtain ⟨oL, hoL, d1, d2, d3, d4⟩ := hL
  have hall : ∀ i o, ops[i]? = some o → ∀ e ∈ o.after.toList, Region.binds .any e = true → e.on < i := by
    intro i o ho e he hbn
    have hi : i < ops.size := (Array.getElem?_eq_some_iff.1 ho).1
    by_cases hv : i < vs.length
    · exact (hb i o hv ho).2.2 e he hbn
    · obtain rfl : i = vs.length := by omega
      rw [hoL] at ho
      cases ho
      exact d3 e he hbn
  rw [hfr]
  refine wpIn_region_any hm ?_
  refine wpAnyIn_inv (I := fun listed a w => listed.size = ops.size ∧ ((listed.getD vs.length true = false ∧ ∃ us : List Value, us.length = vs.length ∧ a = fr (T.toList.take p) us (T.toList.drop (p + vs.length)) ∧ Below W.heap.size W w ∧ ∀ i, i < vs.length → listed.getD i true = true → us.getD i undef = vs.getD i undef) ∨ ((∀ j, j < ops.size → listed.getD j true = true) ∧ Q .normal a w))) (fun _ _ _ h => h.1) ?_ ?_ _ _ _ _ ⟨by simp, .inl ⟨by simp [hsz], _, by simp; omega, rfl, (Below.refl _ _).drew, fun i hi h => ?_⟩⟩ ?_
  · rintro listed a w ⟨hs, h⟩ i hi
    obtain ⟨h1, h2, h3⟩ := ready_of hi
    rcases h with ⟨hn, us, hu, rfl, hbl, hS⟩ | ⟨ha, _⟩
    · have ho : ops[i]? = some ops[i] := Array.getElem?_eq_getElem h1
      unfold wpOpIn
      rw [ho]
      by_cases hv : i < vs.length
      · obtain ⟨o1, o2, o3⟩ := hb i _ hv ho
        have hw : Region.wanted ops[i] (yielded ops (fr (T.toList.take p) us (T.toList.drop (p + vs.length))).tmps) = true := by simp [Region.wanted, o2]
        simp only [hw, if_true]
        refine hstep i _ ho hv _ w (fun t ht => ?_) (fun e he hbn => ?_) hbl _ fun w' hb' => ?_
        · rw [fr_pre _ _ _ _ (by omega), List.getD_eq_getElem?_getD, List.getElem?_take_of_lt ht, Array.getD_eq_getD_getElem?]
          simp
        · have hlt := o3 e he hbn
          have he2 := fr_eval (T.toList.take p) us (T.toList.drop (p + vs.length)) e.on (by omega)
          rw [hl] at he2
          rw [he2]
          refine hS e.on (by omega) ?_
          rw [getD_none (by omega) true false]
          exact h3 _ ho e he hbn
        · have hput := fr_put (T.toList.take p) us (T.toList.drop (p + vs.length)) i (vs.getD i undef) (by omega)
          rw [hl] at hput
          rw [o1, hput]
          refine ⟨by simpa using hs, .inl ⟨?_, us.set i (vs.getD i undef), by simpa using hu, rfl, hbl.trans (hb'.mono hbl.size), fun j hj hlj => ?_⟩⟩
          · rw [Array.getD_eq_getD_getElem?, Array.getElem?_setIfInBounds_ne (by omega), ← Array.getD_eq_getD_getElem?]
            exact hn
          · by_cases hji : j = i
            · subst hji
              rw [List.getD_eq_getElem?_getD, List.getElem?_set_self (by omega)]
              rfl
            · rw [List.getD_eq_getElem?_getD, List.getElem?_set_ne (by omega), ← List.getD_eq_getElem?_getD]
              refine hS j hj ?_
              rw [Array.getD_eq_getD_getElem?, Array.getElem?_setIfInBounds_ne (by omega), ← Array.getD_eq_getD_getElem?] at hlj
              exact hlj
      · obtain rfl : i = vs.length := by omega
        have hoo : ops[vs.length] = oL := by rw [hoL] at ho; exact (Option.some.inj ho).symm
        have hw : Region.wanted ops[vs.length] (yielded ops (fr (T.toList.take p) us (T.toList.drop (p + vs.length))).tmps) = true := by simp [Region.wanted, hoo, d2]
        simp only [hw, if_true]
        have hle : ∀ j, j < vs.length → listed.getD j true = true := fun j hj => by
          obtain ⟨e, he, hbn, rfl⟩ := d4 j hj
          rw [getD_none (by omega) true false]
          exact h3 _ hoL e he hbn
        have hus : us = vs := by
          refine List.ext_getElem (by omega) fun j hj hj' => ?_
          have := hS j (by omega) (hle j (by omega))
          rw [List.getD_eq_getElem?_getD, List.getD_eq_getElem?_getD, List.getElem?_eq_getElem hj, List.getElem?_eq_getElem hj'] at this
          exact this
        rw [hus]
        refine Oper.wpIn_mono (fun a' w' hq => ?_) (hlast _ ho w hbl)
        refine ⟨by simpa using hs, .inr ⟨fun j hj => ?_, hq⟩⟩
        by_cases hjl : j = vs.length
        · subst hjl
          rw [Array.getD_eq_getD_getElem?, Array.getElem?_setIfInBounds_self_of_lt (by omega)]
          rfl
        · rw [Array.getD_eq_getD_getElem?, Array.getElem?_setIfInBounds_ne (by omega), ← Array.getD_eq_getD_getElem?]
          exact hle j (by omega)
    · rw [ha i h1] at h2
      cases h2
  · rintro listed a w ⟨hs, h⟩ hr
    rcases h with ⟨hn, _⟩ | ⟨_, hq⟩
    · have := ready_some hall hr hs vs.length (by omega)
      rw [this] at hn
      cases hn
    · exact hq
  · rw [Array.getD_eq_getD_getElem?, Array.getElem?_replicate, if_pos (by omega)] at h
    cases h
  · have hle : ∀ (p : Nat → Bool) n, cntR p n ≤ n := fun p n => by
      induction n with
      | zero => exact Nat.le_refl _
      | succ n ih => rw [cntR]; split <;> omega
    exact hle _ _
end
/-- A step in a round, at the wide fence, is a step. -/
theorem wpIn_of_wp {l n : Nat} {P : Program} {o : Oper} {a : Act} {w : World} {K : Act → World → Prop} {Q : Exit → Act → World → Prop} (hd : ∀ c, o.op ≠ .defer c) (h : Oper.wp P o a w K Q) : Oper.wpIn (Fence.wide.inRound l) n P o a w K Q := by
  refine ⟨fun _ _ => trivial, ?_⟩
  rw [Oper.semAt_eq _ _ _ hd]
  unfold Oper.wp at h
  generalize (execOp a.eval o).run P w = r at *
  cases r with
  | ok x w' =>
    cases x <;> simp only [Oper.upon, Oper.uponIn] at h ⊢
    case value u => exact h
    case skip => exact h
    case defer d => exact h
    case enter f args => exact ⟨fun h => (by cases h), CallsIn.inRound l (callsIn_wide.2 h)⟩
    case row row args => exact ⟨fun h => (by cases h), fun c cs _ => let ⟨v, w2, r, s⟩ := h c cs; ⟨v, w2, r, stepsIn_wide.2 s⟩⟩
  | halt x w' =>
    cases x <;> simp only [Oper.upon, Oper.uponIn] at h ⊢
    case panic u => exact h
end Go.Proofs.YtkfcglgikemefaaDoor
namespace Go.Proofs.YtkfcglgikemefaaDoor
set_option maxRecDepth 100000
open Go.RowKit
set_option linter.unusedVariables false
/-- Each of the first operations has its own temporary; who waits for whom; each behind waits for all of the first, and for the one ahead. -/
def okTailI (ds : List Nat) (ops : Array Oper) : Bool := decide (ds.length ≤ ops.size) && (List.range ops.size).all fun i => match ops[i]? with
  | some o => o.guard.isNone && (o.after.all fun e => !Region.binds .any e || decide (e.on < i)) && (decide (ds.length ≤ i) || o.dst == ds[i]?) && (decide (i < ds.length) || ((List.range ds.length).all (fun j => (reachT ops 12 i).contains j) && (decide (i ≤ ds.length) || o.after.any fun e => Region.binds .any e && e.on + 1 == i)))
  | none => false
section
variable {F : Fence} {n : Nat} {P : Program} {ops : Array Oper} {Q : Exit → Act → World → Prop}
theorem wpListIn_at {k : Nat} (h : k < ops.size) {a : Act} {w : World} : wpListIn F n P ops Q (ops.toList.drop k) a w = wpOpIn F n P ops Q k (wpListIn F n P ops Q (ops.toList.drop (k + 1))) a w := by
  have h1 : ops.toList.drop k = ops[k] :: ops.toList.drop (k + 1) := by
    rw [List.drop_eq_getElem_cons (by simpa using h)]
    simp
  rw [h1]
  unfold wpOpIn
  rw [Array.getElem?_eq_getElem h, wpListIn]
def TIn (F : Fence) (n : Nat) (S : Nat → Nat → Nat → Value → World → Prop) (ds : List Nat) (W : World) (T : Array Value) (P : Program) (ops : Array Oper) (Q : Exit → Act → World → Prop) (listed : Array Bool) (a : Act) (w : World) : Prop := listed.size = ops.size ∧
  (((∀ j, ds.length ≤ j → j < ops.size → listed.getD j true = false) ∧ (∀ i o, i < ds.length → listed.getD i true = true → ops[i]? = some o → ∀ e ∈ o.after.toList, Region.binds .any e = true → listed.getD e.on true = true) ∧ ∃ (us : List Value) (lo hi : Nat → Nat), us.length = ds.length ∧ a = ⟨putAll T ds us, []⟩ ∧ Below W.heap.size W w ∧ (∀ i, i < ds.length → listed.getD i true = true → W.heap.size ≤ lo i ∧ lo i ≤ hi i ∧ hi i ≤ w.heap.size ∧ S i (lo i) (hi i) (us.getD i undef) w) ∧
      ∀ i j, i < ds.length → j < ds.length → listed.getD i true = true → listed.getD j true = true → i ≠ j → hi i ≤ lo j ∨ hi j ≤ lo i) ∨
   ∃ k, ds.length ≤ k ∧ k ≤ ops.size ∧ (∀ j, j < ops.size → listed.getD j true = decide (j < k)) ∧ wpListIn F n P ops Q (ops.toList.drop k) a w)
theorem listed_setI {l : Array Bool} {i j : Nat} (hi : i < l.size) (b : Bool) : (l.setIfInBounds i true).getD j b = if j = i then true else l.getD j b := by
  split
  · next h =>
    subst h
    rw [Array.getD_eq_getD_getElem?, Array.getElem?_setIfInBounds_self_of_lt hi]
    rfl
  · next h =>
    rw [Array.getD_eq_getD_getElem?, Array.getElem?_setIfInBounds_ne (by omega), ← Array.getD_eq_getD_getElem?]
theorem wpIn_region_tail {id : Nat} (S : Nat → Nat → Nat → Value → World → Prop) (ds : List Nat) (W : World) (T : Array Value) (hn : ds.Nodup) (hd : ∀ d ∈ ds, d < T.size) (hm : P.follows .mixedOrders = true) (hops : okTailI ds ops = true)
    (hmono : ∀ i x y v w w', Below W.heap.size W w → y ≤ w.heap.size → Below w.heap.size w w' → S i x y v w → S i x y v w')
    (hstep : ∀ i o, ops[i]? = some o → i < ds.length → ∀ (a : Act) (w : World), (∀ t, t ∉ ds → a.tmps[t]? = T[t]?) → (∀ e ∈ o.after.toList, Region.binds .any e = true → ∃ v x y, a.tmps[ds.getD e.on 0]? = some v ∧ S e.on x y v w) → Below W.heap.size W w →
      ∀ K : Act → World → Prop, (∀ v w', Below w.heap.size w w' → S i w.heap.size w'.heap.size v w' → K (a.put o.dst v) w') → Oper.wpIn F n P o a w K Q)
    (hend : ∀ (us : List Value) (lo hi : Nat → Nat) (w : World), us.length = ds.length → Below W.heap.size W w → (∀ i, i < ds.length → W.heap.size ≤ lo i ∧ lo i ≤ hi i ∧ hi i ≤ w.heap.size ∧ S i (lo i) (hi i) (us.getD i undef) w) → (∀ i j, i < ds.length → j < ds.length → i ≠ j → hi i ≤ lo j ∨ hi j ≤ lo i) →
      wpListIn F n P ops Q (ops.toList.drop ds.length) ⟨putAll T ds us, []⟩ w) :
    (Code.region id ops true).wpIn F n P Q ⟨T, []⟩ W := by
  unfold okTailI at hops
  rw [Bool.and_eq_true, decide_eq_true_eq] at hops
  obtain ⟨hsz, hall0⟩ := hops
  have hall : ∀ (i : Nat) (o : Oper), ops[i]? = some o → o.guard = none ∧ (∀ e ∈ o.after.toList, Region.binds .any e = true → e.on < i) ∧ (∀ h : i < ds.length, o.dst = some ds[i]) ∧ (ds.length ≤ i → (∀ j, j < ds.length → j ∈ reachT ops 12 i) ∧ (ds.length < i → ∃ e ∈ o.after.toList, Region.binds .any e = true ∧ e.on + 1 = i)) := by
    intro i o ho
    have hi : i < ops.size := (Array.getElem?_eq_some_iff.1 ho).1
    have h1 := List.all_eq_true.1 hall0 i (by simpa using hi)
    rw [ho] at h1
    simp only [Bool.and_eq_true, Bool.or_eq_true, beq_iff_eq, Option.isNone_iff_eq_none, decide_eq_true_eq] at h1
    obtain ⟨⟨⟨h1, h2⟩, h3⟩, h4⟩ := h1
    refine ⟨h1, fun e he hbn => ?_, fun h => ?_, fun h => ?_⟩
    · have h5 := Array.all_eq_true'.1 h2 e (by simpa using he)
      simpa [hbn] using h5
    · rcases h3 with h3 | h3
      · omega
      · rw [h3, List.getElem?_eq_getElem h]
    · rcases h4 with h4 | h4
      · omega
      · refine ⟨fun j hj => ?_, fun hlt => ?_⟩
        · have h5 := List.all_eq_true.1 h4.1 j (by simpa using hj)
          simpa using h5
        · rcases h4.2 with h5 | h5
          · omega
          · obtain ⟨e, he, h6⟩ := Array.any_eq_true'.1 h5
            simp only [Bool.and_eq_true, beq_iff_eq] at h6
            exact ⟨e, by simpa using he, h6.1, h6.2⟩
  have hat : ∀ (us : List Value) (i : Nat) (hi : i < ds.length), us.length = ds.length → (putAll T ds us)[ds[i]]? = some (us.getD i undef) := fun us i hi hu => by
    rw [putAll_at T ds us i hi hu.symm hn (hd _ (List.getElem_mem hi)), List.getD_eq_getElem?_getD, List.getElem?_eq_getElem (by omega)]
    rfl
  refine wpIn_region_any hm ?_
  refine wpAnyIn_inv (I := TIn F n S ds W T P ops Q) (fun _ _ _ h => h.1) ?_ ?_ _ _ _ _ ⟨by simp, .inl ⟨fun j hj hjs => ?_, fun i o hi hl ho => ?_, ds.map (fun d => T.getD d undef), fun _ => 0, fun _ => 0, by simp, by rw [putAll_id ds T hn hd], (Below.refl _ _).drew, fun i hi h => ?_, fun i j hi _ h => ?_⟩⟩ ?_
  · rintro listed a w ⟨hs, h⟩ i hi
    obtain ⟨h1, h2, h3⟩ := ready_of hi
    have ho : ops[i]? = some ops[i] := Array.getElem?_eq_getElem h1
    obtain ⟨hg, hw3, hw1, hw4⟩ := hall i _ ho
    have h2' : listed.getD i true = false := h2
    have hdone : ∀ e ∈ ops[i].after.toList, Region.binds .any e = true → listed.getD e.on true = true := fun e he hbn => by
      have := hw3 e he hbn
      rw [getD_both (by omega) true false]
      exact h3 _ ho e he hbn
    rcases h with ⟨hnl, hcl, us, lo, hi', hu, rfl, hbl, hS, hdj⟩ | ⟨k, hk1, hk2, hkl, hq⟩
    · by_cases hv : i < ds.length
      · have o1 := hw1 hv
        unfold wpOpIn
        rw [ho]
        have hw : Region.wanted ops[i] (yielded ops (⟨putAll T ds us, []⟩ : Act).tmps) = true := by simp [Region.wanted, hg]
        simp only [hw, if_true]
        refine hstep i _ ho hv ⟨putAll T ds us, []⟩ w (fun t ht => putAll_far _ _ _ _ ht) (fun e he hbn => ?_) hbl _ fun v w' hb' hv' => ?_
        · have hlt := hw3 e he hbn
          refine ⟨us.getD e.on undef, lo e.on, hi' e.on, ?_, (hS e.on (by omega) (hdone e he hbn)).2.2.2⟩
          have hge : ds.getD e.on 0 = ds[e.on]'(by omega) := by rw [List.getD_eq_getElem?_getD, List.getElem?_eq_getElem (show e.on < ds.length by omega)]; rfl
          rw [hge]
          exact hat us e.on (by omega) hu
        · refine ⟨by simpa using hs, .inl ⟨fun j hj hjs => ?_, fun i2 o2 hi2 hl2 ho2 e he hbn => ?_, us.set i v, (fun j => if j = i then w.heap.size else lo j), (fun j => if j = i then w'.heap.size else hi' j), by simpa using hu, ?_, hbl.trans (hb'.mono hbl.size), fun j hj hlj => ?_, fun j1 j2 hj1 hj2 hl1 hl2 hne => ?_⟩⟩
          · rw [listed_setI (by omega), if_neg (by omega)]
            exact hnl j hj hjs
          · rw [listed_setI (by omega)]
            split
            · rfl
            · by_cases h2i : i2 = i
              · subst h2i
                rw [ho] at ho2
                cases ho2
                exact hdone e he hbn
              · rw [listed_setI (by omega), if_neg h2i] at hl2
                exact hcl i2 o2 hi2 hl2 ho2 e he hbn
          · rw [o1, putAll_set ds us T i v hv hu.symm hn]
            rfl
          · by_cases hji : j = i
            · subst hji
              rw [List.getD_eq_getElem?_getD, List.getElem?_set_self (by omega)]
              simp only [if_true]
              exact ⟨hbl.size, hb'.size, Nat.le_refl _, hv'⟩
            · rw [List.getD_eq_getElem?_getD, List.getElem?_set_ne (by omega), ← List.getD_eq_getElem?_getD]
              rw [listed_setI (by omega), if_neg hji] at hlj
              obtain ⟨s1, s2, s3, s4⟩ := hS j hj hlj
              simp only [if_neg hji]
              exact ⟨s1, s2, Nat.le_trans s3 hb'.size, hmono j _ _ _ w w' hbl s3 hb' s4⟩
          · by_cases e1 : j1 = i
            · have e2 : j2 ≠ i := by omega
              rw [listed_setI (by omega), if_neg e2] at hl2
              obtain ⟨s1, s2, s3, s4⟩ := hS j2 hj2 hl2
              simp only [if_pos e1, if_neg e2]
              exact .inr s3
            · rw [listed_setI (by omega), if_neg e1] at hl1
              obtain ⟨s1, s2, s3, s4⟩ := hS j1 hj1 hl1
              by_cases e2 : j2 = i
              · simp only [if_neg e1, if_pos e2]
                exact .inl s3
              · rw [listed_setI (by omega), if_neg e2] at hl2
                simp only [if_neg e1, if_neg e2]
                exact hdj j1 j2 hj1 hj2 hl1 hl2 hne
      · obtain ⟨w1, w2⟩ := hw4 (by omega)
        have hii : i = ds.length := by
          rcases Nat.lt_or_ge ds.length i with hlt | hge
          · obtain ⟨e, he, hbn, hon⟩ := w2 hlt
            have h5 := hdone e he hbn
            rw [hnl e.on (by omega) (by omega)] at h5
            cases h5
          · omega
        subst hii
        have hle : ∀ j, j < ds.length → listed.getD j true = true := fun j hj => by
          refine (reachT_done (D := fun j => j < ds.length ∧ listed.getD j true = true) (fun i2 o2 h h2 e he hbn => ⟨?_, hcl i2 o2 h.1 h.2 h2 e he hbn⟩) 12 ds.length _ ho (fun e he hbn => ⟨hw3 e he hbn, hdone e he hbn⟩) j (w1 j hj)).2
          have := (hall i2 o2 h2).2.1 e he hbn
          have := h.1
          omega
        have hlist := hend us lo hi' w hu hbl (fun j hj => hS j hj (hle j hj)) fun j1 j2 h1 h2 hne => hdj j1 j2 h1 h2 (hle j1 h1) (hle j2 h2) hne
        rw [wpListIn_at h1] at hlist
        refine wpOpIn_mono (fun a' w' hq => ⟨by simpa using hs, .inr ⟨ds.length + 1, by omega, by omega, fun j hj => ?_, hq⟩⟩) hlist
        rw [listed_setI (by omega)]
        by_cases hji : j = ds.length
        · rw [if_pos hji, decide_eq_true (by omega)]
        · rw [if_neg hji]
          by_cases hjl : j < ds.length
          · rw [hle j hjl, decide_eq_true (by omega)]
          · rw [hnl j (by omega) hj, decide_eq_false (by omega)]
    · have hik : i = k := by
        have hge : k ≤ i := by
          rcases Nat.lt_or_ge i k with hlt | hge
          · rw [hkl i h1, decide_eq_true hlt] at h2'
            cases h2'
          · exact hge
        rcases Nat.lt_or_ge k i with hlt | hge2
        · obtain ⟨w1, w2⟩ := hw4 (by omega)
          obtain ⟨e, he, hbn, hon⟩ := w2 (by omega)
          have h5 := hdone e he hbn
          rw [hkl e.on (by omega), decide_eq_false (by omega)] at h5
          cases h5
        · omega
      subst hik
      rw [wpListIn_at h1] at hq
      refine wpOpIn_mono (fun a' w' hq => ⟨by simpa using hs, .inr ⟨i + 1, by omega, by omega, fun j hj => ?_, hq⟩⟩) hq
      rw [listed_setI (by omega)]
      by_cases hji : j = i
      · rw [if_pos hji, decide_eq_true (by omega)]
      · rw [if_neg hji, hkl j hj]
        by_cases hjl : j < i
        · rw [decide_eq_true hjl, decide_eq_true (by omega)]
        · rw [decide_eq_false hjl, decide_eq_false (by omega)]
  · rintro listed a w ⟨hs, h⟩ hr
    have hal := ready_some (fun i o ho => (hall i o ho).2.1) hr hs
    rcases h with ⟨hnl, hcl, us, lo, hi', hu, rfl, hbl, hS, hdj⟩ | ⟨k, hk1, hk2, hkl, hq⟩
    · have hse : ds.length = ops.size := by
        rcases Nat.lt_or_ge ds.length ops.size with hlt | hge
        · have := hal ds.length hlt
          rw [hnl _ (Nat.le_refl _) hlt] at this
          cases this
        · omega
      have hlist := hend us lo hi' w hu hbl (fun j hj => hS j hj (hal j (by omega))) fun j1 j2 h1 h2 hne => hdj j1 j2 h1 h2 (hal j1 (by omega)) (hal j2 (by omega)) hne
      rw [List.drop_eq_nil_of_le (by simp; omega)] at hlist
      exact hlist
    · have hse : k = ops.size := by
        rcases Nat.lt_or_ge k ops.size with hlt | hge
        · have := hal k hlt
          rw [hkl _ hlt, decide_eq_false (by omega)] at this
          cases this
        · omega
      rw [List.drop_eq_nil_of_le (by simp; omega)] at hq
      exact hq
  · rw [Array.getD_eq_getD_getElem?, Array.getElem?_replicate, if_pos hjs]
    rfl
  · rw [Array.getD_eq_getD_getElem?, Array.getElem?_replicate, if_pos (by omega)] at hl
    cases hl
  · rw [Array.getD_eq_getD_getElem?, Array.getElem?_replicate, if_pos (by omega)] at h
    cases h
  · rw [Array.getD_eq_getD_getElem?, Array.getElem?_replicate, if_pos (by omega)] at h
    cases h
  · have hle : ∀ (p : Nat → Bool) n, cntR p n ≤ n := fun p n => by
      induction n with
      | zero => exact Nat.le_refl _
      | succ n ih => rw [cntR]; split <;> omega
    exact hle _ _
end
end Go.Proofs.YtkfcglgikemefaaDoor
namespace Go.Proofs.YtkfcglgikemefaaDoor
set_option maxRecDepth 100000
open Go.RowKit Go.Shelf
set_option linter.unusedVariables false
section
variable {a : Act} {w : World} {K : Act → World → Prop} {Q : Exit → Act → World → Prop} {o : Oper}
theorem s_field (x k : Nat) (hk : k = 0 ∨ k = 1) {N : Nat} (ho : o.op = .fieldAddr 46 (.tmp x) k) (hx : a.tmps[x]?.getD undef = .pointer (some ⟨N, 0, none⟩)) (hK : K (a.put o.dst (.pointer (some ⟨N, k, none⟩))) w) : Oper.wp Tryd.prog o a w K Q := by
  obtain ⟨dst, op, type, pos, after, guard⟩ := o
  have ho' : op = _ := ho
  subst ho'
  clear ho
  rcases hk with rfl | rfl <;>
  · go_simp
    exact hK
theorem s_loadI (x : Nat) {q : Addr} {n : Int} (ho : o.op = .load 3 (.tmp x)) (hx : a.tmps[x]?.getD undef = .pointer (some q)) (hc : w.cell? q = some (.int .i64 n)) (hK : K (a.put o.dst (.int .i64 n)) w) : Oper.wp Tryd.prog o a w K Q := by
  obtain ⟨dst, op, type, pos, after, guard⟩ := o
  have ho' : op = _ := ho
  subst ho'
  clear ho
  go_simp
  exact hK
theorem s_loadB (x : Nat) {q : Addr} {n : Int} (ho : o.op = .load 5 (.tmp x)) (hx : a.tmps[x]?.getD undef = .pointer (some q)) (hc : w.cell? q = some (.int .u8 n)) (hK : K (a.put o.dst (.int .u8 n)) w) : Oper.wp Tryd.prog o a w K Q := by
  obtain ⟨dst, op, type, pos, after, guard⟩ := o
  have ho' : op = _ := ho
  subst ho'
  clear ho
  go_simp
  exact hK
theorem s_name (x : Nat) (k : Nat) (hk : k < 256) (he : Ek w) (ho : o.op = .call { callee := .value (.func 78), args := #[.tmp x], argTypes := #[5] }) (hx : a.tmps[x]?.getD undef = .int .u8 k) (hK : K (a.put o.dst (.string (bsW (nmL k)))) w) : Oper.wp Tryd.prog o a w K Q := by
  obtain ⟨dst, op, type, pos, after, guard⟩ := o
  have ho' : op = _ := ho
  subst ho'
  clear ho
  have hr := name_any k hk w he
  have h1 := Tryd.func78
  go_simp
  refine hr.mono ?_
  rintro e w' ⟨rfl, rfl⟩
  exact hK
end
def dsS3 : List Nat := [10, 11, 12, 13, 14, 15, 16, 4]
end Go.Proofs.YtkfcglgikemefaaDoor
namespace Go.Proofs.YtkfcglgikemefaaDoor
set_option maxRecDepth 100000
open Go.RowKit
set_option linter.unusedVariables false
section
variable {a : Act} {w : World} {K : Act → World → Prop} {Q : Exit → Act → World → Prop} {o : Oper}
theorem v_field1 (x : Nat) {g : Nat} (ho : o.op = .fieldAddr 46 (.tmp x) 1) (hx : a.tmps[x]?.getD undef = .pointer (some ⟨g, 0, none⟩)) (hK : K (a.put o.dst (.pointer (some ⟨g, 1, none⟩))) w) : Oper.wp Tryd.prog o a w K Q := by
  obtain ⟨dst, op, type, pos, after, guard⟩ := o
  have ho' : op = _ := ho
  subst ho'
  clear ho
  go_simp
  exact hK
theorem v_field2 (x : Nat) {g : Nat} (ho : o.op = .fieldAddr 46 (.tmp x) 2) (hx : a.tmps[x]?.getD undef = .pointer (some ⟨g, 0, none⟩)) (hK : K (a.put o.dst (.pointer (some ⟨g, 2, none⟩))) w) : Oper.wp Tryd.prog o a w K Q := by
  obtain ⟨dst, op, type, pos, after, guard⟩ := o
  have ho' : op = _ := ho
  subst ho'
  clear ho
  go_simp
  exact hK
theorem v_field3 (x : Nat) {g : Nat} (ho : o.op = .fieldAddr 46 (.tmp x) 3) (hx : a.tmps[x]?.getD undef = .pointer (some ⟨g, 0, none⟩)) (hK : K (a.put o.dst (.pointer (some ⟨g, 3, none⟩))) w) : Oper.wp Tryd.prog o a w K Q := by
  obtain ⟨dst, op, type, pos, after, guard⟩ := o
  have ho' : op = _ := ho
  subst ho'
  clear ho
  go_simp
  exact hK
theorem v_field4 (x : Nat) {g : Nat} (ho : o.op = .fieldAddr 46 (.tmp x) 4) (hx : a.tmps[x]?.getD undef = .pointer (some ⟨g, 0, none⟩)) (hK : K (a.put o.dst (.pointer (some ⟨g, 4, none⟩))) w) : Oper.wp Tryd.prog o a w K Q := by
  obtain ⟨dst, op, type, pos, after, guard⟩ := o
  have ho' : op = _ := ho
  subst ho'
  clear ho
  go_simp
  exact hK
theorem v_eqlsc (x : Nat) {n : ByteArray} {r : Bool} (ho : o.op = .binOp .eql 9 (.tmp x) (.const (.string ⟨#[]⟩)) 9) (hx : a.tmps[x]?.getD undef = .string n) (hr : n.toList.isEmpty = r) (hK : K (a.put o.dst (.bool r)) w) : Oper.wp Tryd.prog o a w K Q := by
  obtain ⟨dst, op, type, pos, after, guard⟩ := o
  have ho' : op = _ := ho
  subst ho'
  clear ho
  subst hr
  go_simp
  exact hK
theorem v_lssc (x : Nat) {n c : Int} {r : Bool} (ho : o.op = .binOp .lss 3 (.tmp x) (.const (.int .i64 c)) 3) (hx : a.tmps[x]?.getD undef = .int .i64 n) (hr : decide (n < c) = r) (hK : K (a.put o.dst (.bool r)) w) : Oper.wp Tryd.prog o a w K Q := by
  obtain ⟨dst, op, type, pos, after, guard⟩ := o
  have ho' : op = _ := ho
  subst ho'
  clear ho
  subst hr
  go_simp
  exact hK
theorem v_geqc (x : Nat) {n c : Int} {r : Bool} (ho : o.op = .binOp .geq 3 (.tmp x) (.const (.int .i64 c)) 3) (hx : a.tmps[x]?.getD undef = .int .i64 n) (hr : decide (c ≤ n) = r) (hK : K (a.put o.dst (.bool r)) w) : Oper.wp Tryd.prog o a w K Q := by
  obtain ⟨dst, op, type, pos, after, guard⟩ := o
  have ho' : op = _ := ho
  subst ho'
  clear ho
  subst hr
  go_simp
  exact hK
theorem v_gtrc (x : Nat) {n c : Int} {r : Bool} (ho : o.op = .binOp .gtr 3 (.tmp x) (.const (.int .i64 c)) 3) (hx : a.tmps[x]?.getD undef = .int .i64 n) (hr : decide (c < n) = r) (hK : K (a.put o.dst (.bool r)) w) : Oper.wp Tryd.prog o a w K Q := by
  obtain ⟨dst, op, type, pos, after, guard⟩ := o
  have ho' : op = _ := ho
  subst ho'
  clear ho
  subst hr
  go_simp
  exact hK
theorem v_geq (x y : Nat) {n m : Int} {r : Bool} (ho : o.op = .binOp .geq 3 (.tmp x) (.tmp y) 3) (hx : a.tmps[x]?.getD undef = .int .i64 n) (hy : a.tmps[y]?.getD undef = .int .i64 m) (hr : decide (m ≤ n) = r) (hK : K (a.put o.dst (.bool r)) w) : Oper.wp Tryd.prog o a w K Q := by
  obtain ⟨dst, op, type, pos, after, guard⟩ := o
  have ho' : op = _ := ho
  subst ho'
  clear ho
  subst hr
  go_simp
  exact hK
theorem v_neqE (x y : Nat) {a0 a1 a2 a3 a4 a5 a6 b0 b1 b2 b3 b4 b5 b6 : Int} {r : Bool} (ho : o.op = .binOp .neq 46 (.tmp x) (.tmp y) 46) (hx : a.tmps[x]?.getD undef = .agg #[.int .u8 a0, .int .i64 a1, .int .i64 a2, .int .i64 a3, .int .i64 a4, .int .i64 a5, .int .u8 a6]) (hy : a.tmps[y]?.getD undef = .agg #[.int .u8 b0, .int .i64 b1, .int .i64 b2, .int .i64 b3, .int .i64 b4, .int .i64 b5, .int .u8 b6]) (hr : (!(a0 == b0 && (a1 == b1 && (a2 == b2 && (a3 == b3 && (a4 == b4 && (a5 == b5 && a6 == b6))))))) = r) (hK : K (a.put o.dst (.bool r)) w) : Oper.wp Tryd.prog o a w K Q := by
  obtain ⟨dst, op, type, pos, after, guard⟩ := o
  have ho' : op = _ := ho
  subst ho'
  clear ho
  subst hr
  by_cases h0 : a0 = b0
  · by_cases h1 : a1 = b1
    · by_cases h2 : a2 = b2
      · by_cases h3 : a3 = b3
        · by_cases h4 : a4 = b4
          · by_cases h5 : a5 = b5
            · by_cases h6 : a6 = b6
              · subst h0 h1 h2 h3 h4 h5 h6
                simp only [beq_self_eq_true, Bool.and_self, Bool.not_true] at hK
                go_simp
                exact hK
              · subst h0 h1 h2 h3 h4 h5
                have q : (a6 == b6) = false := beq_eq_false_iff_ne.2 h6
                simp only [q, beq_self_eq_true, Bool.and_false, Bool.not_false] at hK
                go_simp
                exact hK
            · subst h0 h1 h2 h3 h4
              have q : (a5 == b5) = false := beq_eq_false_iff_ne.2 h5
              simp only [q, beq_self_eq_true, Bool.false_and, Bool.and_false, Bool.not_false] at hK
              go_simp
              exact hK
          · subst h0 h1 h2 h3
            have q : (a4 == b4) = false := beq_eq_false_iff_ne.2 h4
            simp only [q, beq_self_eq_true, Bool.false_and, Bool.and_false, Bool.not_false] at hK
            go_simp
            exact hK
        · subst h0 h1 h2
          have q : (a3 == b3) = false := beq_eq_false_iff_ne.2 h3
          simp only [q, beq_self_eq_true, Bool.false_and, Bool.and_false, Bool.not_false] at hK
          go_simp
          exact hK
      · subst h0 h1
        have q : (a2 == b2) = false := beq_eq_false_iff_ne.2 h2
        simp only [q, beq_self_eq_true, Bool.false_and, Bool.and_false, Bool.not_false] at hK
        go_simp
        exact hK
    · subst h0
      have q : (a1 == b1) = false := beq_eq_false_iff_ne.2 h1
      simp only [q, beq_self_eq_true, Bool.false_and, Bool.and_false, Bool.not_false] at hK
      go_simp
      exact hK
  · have q : (a0 == b0) = false := beq_eq_false_iff_ne.2 h0
    simp only [q, Bool.false_and, Bool.not_false] at hK
    go_simp
    exact hK
theorem v_bare (x : Nat) {u : Value} (ho : o.op = .call { callee := .value (.func 86), args := #[.tmp x], argTypes := #[46] }) {v0 : Value} (h0 : a.tmps[x]?.getD undef = v0) (hc : Calls Tryd.prog 86 #[v0] w fun r w' => r = .returned u ∧ Below w.heap.size w w') (hK : ∀ w', Below w.heap.size w w' → K (a.put o.dst u) w') : Oper.wp Tryd.prog o a w K Q := by
  obtain ⟨dst, op, type, pos, after, guard⟩ := o
  have ho' : op = _ := ho
  subst ho'
  clear ho
  have h1 := Tryd.func86
  have HC := Lib.hid hc
  clear hc
  go_simp
  refine HC.out.mono ?_
  rintro r w' ⟨rfl, hb⟩
  exact hK w' hb
end
noncomputable def regR3_0_ops : Array Oper := opsW Tryd.f48 3
def regR3_0_ds : List Nat := [32, 33, 34, 35, 36, 37, 38, 39, 40, 41, 42, 43, 44, 45, 46, 47, 48, 49, 50, 51, 52, 53, 54, 55, 56, 57, 58, 59, 60, 61, 62, 63, 64, 65, 66, 67, 68, 69, 70, 71, 72, 73, 74, 75, 76, 77]
set_option maxRecDepth 100000 in
set_option maxHeartbeats 4000000 in
theorem regR3_0 {id : Nat} {ops : Array Oper} (hops : ops = regR3_0_ops) (T0 : Array Value) (hsz : 78 ≤ T0.size) (W : World) (g : Nat) (kn : Nat) (kd th tx pl v x why T b0 b1 b2 b3 b4 b5 b6 : Int) (hk : kd = kn) (hg : ∀ wx, Below W.heap.size W wx → wx.heap[g]? = some (.cells #[.int .u8 kd, .int .i64 th, .int .i64 tx, .int .i64 pl, .int .i64 v, .int .i64 x, .int .u8 why] 46 (0, 0))) (H1 : ∀ wx, Below W.heap.size W wx → Calls Tryd.prog 85 #[.int .u8 kd] wx fun r w' => r = .returned (.string (bsW (nmL kn))) ∧ Below wx.heap.size wx w') (H2 : ∀ wx, Below W.heap.size W wx → Calls Tryd.prog 86 #[.agg #[.int .u8 kd, .int .i64 th, .int .i64 tx, .int .i64 pl, .int .i64 v, .int .i64 x, .int .u8 why]] wx fun r w' => r = .returned (.agg #[.int .u8 b0, .int .i64 b1, .int .i64 b2, .int .i64 b3, .int .i64 b4, .int .i64 b5, .int .u8 b6]) ∧ Below wx.heap.size wx w') (c1 : (bsW (nmL kn)).toList.isEmpty = false) (c2 : decide (th < 0) = false) (c3 : decide (T ≤ th) = false) (c4 : (!(b0 == kd && (b1 == th && (b2 == tx && (b3 == pl && (b4 == v && (b5 == x && b6 == why))))))) = false) (c5 : decide (tx < 0) = false) (c6 : decide (6 ≤ tx) = false) (c7 : decide (v < 0) = false) (c8 : decide (1099511627776 < v) = false) (c9 : decide (pl < 0) = false) (h1 : T0[1]? = some (.int .i64 T)) (h4 : T0[4]? = some (.pointer (some ⟨g, 0, none⟩))) {Q : Exit → Act → World → Prop}
    (hend : ∀ (us : List Value) (w : World), us.length = 46 → Below W.heap.size W w → us.getD 45 undef = .bool false → Q .normal ⟨putAll T0 regR3_0_ds us, []⟩ w) : (Code.region id ops true).wp Tryd.prog Q ⟨T0, []⟩ W := by
  subst hops
  have hos : regR3_0_ops.size = 46 := by kernel_rfl
  have hga : (List.range 46).all (fun i => match regR3_0_ops[i]? with | some o => o.guard == ([none, none, none, none, none, some (4, false), some (4, false), some (4, false), none, none, some (9, false), some (9, false), some (9, false), some (9, false), none, none, some (15, false), some (15, false), some (15, false), some (15, false), none, none, some (21, false), some (21, false), some (21, false), none, none, some (26, false), some (26, false), some (26, false), none, none, some (31, false), some (31, false), some (31, false), none, none, some (36, false), some (36, false), some (36, false), none, none, some (41, false), some (41, false), some (41, false), none] : List (Option (Nat × Bool))).getD i none | none => false) = true := by kernel_rfl
  refine wp_region_vals3 ([.pointer (some ⟨g, 0, none⟩), .int .u8 kd, .string (bsW (nmL kn)), .bool false, .bool false, .pointer (some ⟨g, 1, none⟩), .int .i64 th, .bool false, .bool false, .bool false, .pointer (some ⟨g, 1, none⟩), .int .i64 th, .int .i64 T, .bool false, .bool false, .bool false, .agg #[.int .u8 kd, .int .i64 th, .int .i64 tx, .int .i64 pl, .int .i64 v, .int .i64 x, .int .u8 why], .agg #[.int .u8 b0, .int .i64 b1, .int .i64 b2, .int .i64 b3, .int .i64 b4, .int .i64 b5, .int .u8 b6], .agg #[.int .u8 kd, .int .i64 th, .int .i64 tx, .int .i64 pl, .int .i64 v, .int .i64 x, .int .u8 why], .bool false, .bool false, .bool false, .pointer (some ⟨g, 2, none⟩), .int .i64 tx, .bool false, .bool false, .bool false, .pointer (some ⟨g, 2, none⟩), .int .i64 tx, .bool false, .bool false, .bool false, .pointer (some ⟨g, 4, none⟩), .int .i64 v, .bool false, .bool false, .bool false, .pointer (some ⟨g, 4, none⟩), .int .i64 v, .bool false, .bool false, .bool false, .pointer (some ⟨g, 3, none⟩), .int .i64 pl, .bool false, .bool false] : List Value) [true, true, true, true, true, true, true, true, true, true, true, true, true, true, true, true, true, true, true, true, true, true, true, true, true, true, true, true, true, true, true, true, true, true, true, true, true, true, true, true, true, true, true, true, true, true] regR3_0_ds W T0 (by decide) (fun x hx => ?_) (by kernel_rfl) (by kernel_rfl) (fun i o j want ho hg => ?_) ?_ ?_
  · have hall : (regR3_0_ds.all fun d => decide (d < 78)) = true := by decide
    have := List.all_eq_true.1 hall x hx
    simp only [decide_eq_true_eq] at this
    omega
  · have hi : i < 46 := by rw [← hos]; exact (Array.getElem?_eq_some_iff.1 ho).1
    have h1 := List.all_eq_true.1 hga i (by simpa using hi)
    rw [ho] at h1
    simp only [hg, beq_iff_eq] at h1
    match i, hi with
    | 0, _ => cases h1
    | 1, _ => cases h1
    | 2, _ => cases h1
    | 3, _ => cases h1
    | 4, _ => cases h1
    | 5, _ => obtain ⟨rfl, rfl⟩ := Prod.mk.inj (Option.some.inj h1); rfl
    | 6, _ => obtain ⟨rfl, rfl⟩ := Prod.mk.inj (Option.some.inj h1); rfl
    | 7, _ => obtain ⟨rfl, rfl⟩ := Prod.mk.inj (Option.some.inj h1); rfl
    | 8, _ => cases h1
    | 9, _ => cases h1
    | 10, _ => obtain ⟨rfl, rfl⟩ := Prod.mk.inj (Option.some.inj h1); rfl
    | 11, _ => obtain ⟨rfl, rfl⟩ := Prod.mk.inj (Option.some.inj h1); rfl
    | 12, _ => obtain ⟨rfl, rfl⟩ := Prod.mk.inj (Option.some.inj h1); rfl
    | 13, _ => obtain ⟨rfl, rfl⟩ := Prod.mk.inj (Option.some.inj h1); rfl
    | 14, _ => cases h1
    | 15, _ => cases h1
    | 16, _ => obtain ⟨rfl, rfl⟩ := Prod.mk.inj (Option.some.inj h1); rfl
    | 17, _ => obtain ⟨rfl, rfl⟩ := Prod.mk.inj (Option.some.inj h1); rfl
    | 18, _ => obtain ⟨rfl, rfl⟩ := Prod.mk.inj (Option.some.inj h1); rfl
    | 19, _ => obtain ⟨rfl, rfl⟩ := Prod.mk.inj (Option.some.inj h1); rfl
    | 20, _ => cases h1
    | 21, _ => cases h1
    | 22, _ => obtain ⟨rfl, rfl⟩ := Prod.mk.inj (Option.some.inj h1); rfl
    | 23, _ => obtain ⟨rfl, rfl⟩ := Prod.mk.inj (Option.some.inj h1); rfl
    | 24, _ => obtain ⟨rfl, rfl⟩ := Prod.mk.inj (Option.some.inj h1); rfl
    | 25, _ => cases h1
    | 26, _ => cases h1
    | 27, _ => obtain ⟨rfl, rfl⟩ := Prod.mk.inj (Option.some.inj h1); rfl
    | 28, _ => obtain ⟨rfl, rfl⟩ := Prod.mk.inj (Option.some.inj h1); rfl
    | 29, _ => obtain ⟨rfl, rfl⟩ := Prod.mk.inj (Option.some.inj h1); rfl
    | 30, _ => cases h1
    | 31, _ => cases h1
    | 32, _ => obtain ⟨rfl, rfl⟩ := Prod.mk.inj (Option.some.inj h1); rfl
    | 33, _ => obtain ⟨rfl, rfl⟩ := Prod.mk.inj (Option.some.inj h1); rfl
    | 34, _ => obtain ⟨rfl, rfl⟩ := Prod.mk.inj (Option.some.inj h1); rfl
    | 35, _ => cases h1
    | 36, _ => cases h1
    | 37, _ => obtain ⟨rfl, rfl⟩ := Prod.mk.inj (Option.some.inj h1); rfl
    | 38, _ => obtain ⟨rfl, rfl⟩ := Prod.mk.inj (Option.some.inj h1); rfl
    | 39, _ => obtain ⟨rfl, rfl⟩ := Prod.mk.inj (Option.some.inj h1); rfl
    | 40, _ => cases h1
    | 41, _ => cases h1
    | 42, _ => obtain ⟨rfl, rfl⟩ := Prod.mk.inj (Option.some.inj h1); rfl
    | 43, _ => obtain ⟨rfl, rfl⟩ := Prod.mk.inj (Option.some.inj h1); rfl
    | 44, _ => obtain ⟨rfl, rfl⟩ := Prod.mk.inj (Option.some.inj h1); rfl
    | 45, _ => cases h1
    | i + 46, h => exact absurd (show i + 46 < 46 from h) (by omega)
  · intro i o ho hi hon a w hT hU hb K hK
    have hT0 : ∀ t v, t ∉ regR3_0_ds → T0[t]? = some v → a.tmps[t]?.getD undef = v := fun t v ht hv => by rw [hT t ht, hv]; rfl
    match i, hi with
    | 0, _ => exact v_field0 4 (opAtW ho (by kernel_rfl)) (hT0 4 _ (by decide) h4) (hK _ (Below.refl _ _))
    | 1, _ => exact v_loadB 32 (opAtW ho (by kernel_rfl)) (hU 0 (by kernel_rfl) rfl) (cell_of_row w g 0 _ _ _ (hg w hb)) (hK _ (Below.refl _ _))
    | 2, _ => exact v_nameR 33 (opAtW ho (by kernel_rfl)) (hU 1 (by kernel_rfl) rfl) (H1 w hb) (fun w' hb' => hK w' hb')
    | 3, _ => exact v_eqlsc 34 (opAtW ho (by kernel_rfl)) (hU 2 (by kernel_rfl) rfl) (c1) (hK _ (Below.refl _ _))
    | 4, _ => exact v_moveS 35 (opAtW ho (by kernel_rfl)) (hU 3 (by kernel_rfl) rfl) (hK _ (Below.refl _ _))
    | 5, _ => exact v_field1 4 (opAtW ho (by kernel_rfl)) (hT0 4 _ (by decide) h4) (hK _ (Below.refl _ _))
    | 6, _ => exact s_loadI 37 (opAtW ho (by kernel_rfl)) (hU 5 (by kernel_rfl) rfl) (cell_of_row w g 1 _ _ _ (hg w hb)) (hK _ (Below.refl _ _))
    | 7, _ => exact v_lssc 38 (opAtW ho (by kernel_rfl)) (hU 6 (by kernel_rfl) rfl) (c2) (hK _ (Below.refl _ _))
    | 8, _ => exact v_orF 36 39 (opAtW ho (by kernel_rfl)) (hU 4 (by kernel_rfl) rfl) (hU 7 (by kernel_rfl) rfl) (hK _ (Below.refl _ _))
    | 9, _ => exact v_moveS 40 (opAtW ho (by kernel_rfl)) (hU 8 (by kernel_rfl) rfl) (hK _ (Below.refl _ _))
    | 10, _ => exact v_field1 4 (opAtW ho (by kernel_rfl)) (hT0 4 _ (by decide) h4) (hK _ (Below.refl _ _))
    | 11, _ => exact s_loadI 42 (opAtW ho (by kernel_rfl)) (hU 10 (by kernel_rfl) rfl) (cell_of_row w g 1 _ _ _ (hg w hb)) (hK _ (Below.refl _ _))
    | 12, _ => exact v_moveS 1 (opAtW ho (by kernel_rfl)) (hT0 1 _ (by decide) h1) (hK _ (Below.refl _ _))
    | 13, _ => exact v_geq 43 44 (opAtW ho (by kernel_rfl)) (hU 11 (by kernel_rfl) rfl) (hU 12 (by kernel_rfl) rfl) (c3) (hK _ (Below.refl _ _))
    | 14, _ => exact v_orF 41 45 (opAtW ho (by kernel_rfl)) (hU 9 (by kernel_rfl) rfl) (hU 13 (by kernel_rfl) rfl) (hK _ (Below.refl _ _))
    | 15, _ => exact v_moveS 46 (opAtW ho (by kernel_rfl)) (hU 14 (by kernel_rfl) rfl) (hK _ (Below.refl _ _))
    | 16, _ => exact v_loadE 4 (opAtW ho (by kernel_rfl)) (hT0 4 _ (by decide) h4) (hg w hb) rfl (hK _ (Below.refl _ _))
    | 17, _ => exact v_bare 48 (opAtW ho (by kernel_rfl)) (hU 16 (by kernel_rfl) rfl) (H2 w hb) (fun w' hb' => hK w' hb')
    | 18, _ => exact v_loadE 4 (opAtW ho (by kernel_rfl)) (hT0 4 _ (by decide) h4) (hg w hb) rfl (hK _ (Below.refl _ _))
    | 19, _ => exact v_neqE 49 50 (opAtW ho (by kernel_rfl)) (hU 17 (by kernel_rfl) rfl) (hU 18 (by kernel_rfl) rfl) (c4) (hK _ (Below.refl _ _))
    | 20, _ => exact v_orF 47 51 (opAtW ho (by kernel_rfl)) (hU 15 (by kernel_rfl) rfl) (hU 19 (by kernel_rfl) rfl) (hK _ (Below.refl _ _))
    | 21, _ => exact v_moveS 52 (opAtW ho (by kernel_rfl)) (hU 20 (by kernel_rfl) rfl) (hK _ (Below.refl _ _))
    | 22, _ => exact v_field2 4 (opAtW ho (by kernel_rfl)) (hT0 4 _ (by decide) h4) (hK _ (Below.refl _ _))
    | 23, _ => exact s_loadI 54 (opAtW ho (by kernel_rfl)) (hU 22 (by kernel_rfl) rfl) (cell_of_row w g 2 _ _ _ (hg w hb)) (hK _ (Below.refl _ _))
    | 24, _ => exact v_lssc 55 (opAtW ho (by kernel_rfl)) (hU 23 (by kernel_rfl) rfl) (c5) (hK _ (Below.refl _ _))
    | 25, _ => exact v_orF 53 56 (opAtW ho (by kernel_rfl)) (hU 21 (by kernel_rfl) rfl) (hU 24 (by kernel_rfl) rfl) (hK _ (Below.refl _ _))
    | 26, _ => exact v_moveS 57 (opAtW ho (by kernel_rfl)) (hU 25 (by kernel_rfl) rfl) (hK _ (Below.refl _ _))
    | 27, _ => exact v_field2 4 (opAtW ho (by kernel_rfl)) (hT0 4 _ (by decide) h4) (hK _ (Below.refl _ _))
    | 28, _ => exact s_loadI 59 (opAtW ho (by kernel_rfl)) (hU 27 (by kernel_rfl) rfl) (cell_of_row w g 2 _ _ _ (hg w hb)) (hK _ (Below.refl _ _))
    | 29, _ => exact v_geqc 60 (opAtW ho (by kernel_rfl)) (hU 28 (by kernel_rfl) rfl) (c6) (hK _ (Below.refl _ _))
    | 30, _ => exact v_orF 58 61 (opAtW ho (by kernel_rfl)) (hU 26 (by kernel_rfl) rfl) (hU 29 (by kernel_rfl) rfl) (hK _ (Below.refl _ _))
    | 31, _ => exact v_moveS 62 (opAtW ho (by kernel_rfl)) (hU 30 (by kernel_rfl) rfl) (hK _ (Below.refl _ _))
    | 32, _ => exact v_field4 4 (opAtW ho (by kernel_rfl)) (hT0 4 _ (by decide) h4) (hK _ (Below.refl _ _))
    | 33, _ => exact s_loadI 64 (opAtW ho (by kernel_rfl)) (hU 32 (by kernel_rfl) rfl) (cell_of_row w g 4 _ _ _ (hg w hb)) (hK _ (Below.refl _ _))
    | 34, _ => exact v_lssc 65 (opAtW ho (by kernel_rfl)) (hU 33 (by kernel_rfl) rfl) (c7) (hK _ (Below.refl _ _))
    | 35, _ => exact v_orF 63 66 (opAtW ho (by kernel_rfl)) (hU 31 (by kernel_rfl) rfl) (hU 34 (by kernel_rfl) rfl) (hK _ (Below.refl _ _))
    | 36, _ => exact v_moveS 67 (opAtW ho (by kernel_rfl)) (hU 35 (by kernel_rfl) rfl) (hK _ (Below.refl _ _))
    | 37, _ => exact v_field4 4 (opAtW ho (by kernel_rfl)) (hT0 4 _ (by decide) h4) (hK _ (Below.refl _ _))
    | 38, _ => exact s_loadI 69 (opAtW ho (by kernel_rfl)) (hU 37 (by kernel_rfl) rfl) (cell_of_row w g 4 _ _ _ (hg w hb)) (hK _ (Below.refl _ _))
    | 39, _ => exact v_gtrc 70 (opAtW ho (by kernel_rfl)) (hU 38 (by kernel_rfl) rfl) (c8) (hK _ (Below.refl _ _))
    | 40, _ => exact v_orF 68 71 (opAtW ho (by kernel_rfl)) (hU 36 (by kernel_rfl) rfl) (hU 39 (by kernel_rfl) rfl) (hK _ (Below.refl _ _))
    | 41, _ => exact v_moveS 72 (opAtW ho (by kernel_rfl)) (hU 40 (by kernel_rfl) rfl) (hK _ (Below.refl _ _))
    | 42, _ => exact v_field3 4 (opAtW ho (by kernel_rfl)) (hT0 4 _ (by decide) h4) (hK _ (Below.refl _ _))
    | 43, _ => exact s_loadI 74 (opAtW ho (by kernel_rfl)) (hU 42 (by kernel_rfl) rfl) (cell_of_row w g 3 _ _ _ (hg w hb)) (hK _ (Below.refl _ _))
    | 44, _ => exact v_lssc 75 (opAtW ho (by kernel_rfl)) (hU 43 (by kernel_rfl) rfl) (c9) (hK _ (Below.refl _ _))
    | 45, _ => exact v_orF 73 76 (opAtW ho (by kernel_rfl)) (hU 41 (by kernel_rfl) rfl) (hU 44 (by kernel_rfl) rfl) (hK _ (Below.refl _ _))
    | i + 46, h => exact absurd (show i + 46 < 46 from h) (by omega)
  · intro us w hu hb hv
    exact hend us w hu hb (hv 45 (by decide) rfl)
noncomputable def regR3_1_ops : Array Oper := opsW Tryd.f48 3
def regR3_1_ds : List Nat := [32, 33, 34, 35, 36, 37, 38, 39, 40, 41, 42, 43, 44, 45, 46, 47, 48, 49, 50, 51, 52, 53, 54, 55, 56, 57, 58, 59, 60, 61, 62, 63, 64, 65, 66, 67, 68, 69, 70, 71, 72, 73, 74, 75, 76, 77]
set_option maxRecDepth 100000 in
set_option maxHeartbeats 4000000 in
theorem regR3_1 {id : Nat} {ops : Array Oper} (hops : ops = regR3_1_ops) (T0 : Array Value) (hsz : 78 ≤ T0.size) (W : World) (g : Nat) (kn : Nat) (kd th tx pl v x why T b0 b1 b2 b3 b4 b5 b6 : Int) (hk : kd = kn) (hg : ∀ wx, Below W.heap.size W wx → wx.heap[g]? = some (.cells #[.int .u8 kd, .int .i64 th, .int .i64 tx, .int .i64 pl, .int .i64 v, .int .i64 x, .int .u8 why] 46 (0, 0))) (H1 : ∀ wx, Below W.heap.size W wx → Calls Tryd.prog 85 #[.int .u8 kd] wx fun r w' => r = .returned (.string (bsW (nmL kn))) ∧ Below wx.heap.size wx w') (H2 : ∀ wx, Below W.heap.size W wx → Calls Tryd.prog 86 #[.agg #[.int .u8 kd, .int .i64 th, .int .i64 tx, .int .i64 pl, .int .i64 v, .int .i64 x, .int .u8 why]] wx fun r w' => r = .returned (.agg #[.int .u8 b0, .int .i64 b1, .int .i64 b2, .int .i64 b3, .int .i64 b4, .int .i64 b5, .int .u8 b6]) ∧ Below wx.heap.size wx w') (c1 : (bsW (nmL kn)).toList.isEmpty = true) (h1 : T0[1]? = some (.int .i64 T)) (h4 : T0[4]? = some (.pointer (some ⟨g, 0, none⟩))) {Q : Exit → Act → World → Prop}
    (hend : ∀ (us : List Value) (w : World), us.length = 46 → Below W.heap.size W w → us.getD 45 undef = .bool true → Q .normal ⟨putAll T0 regR3_1_ds us, []⟩ w) : (Code.region id ops true).wp Tryd.prog Q ⟨T0, []⟩ W := by
  subst hops
  have hos : regR3_1_ops.size = 46 := by kernel_rfl
  have hga : (List.range 46).all (fun i => match regR3_1_ops[i]? with | some o => o.guard == ([none, none, none, none, none, some (4, false), some (4, false), some (4, false), none, none, some (9, false), some (9, false), some (9, false), some (9, false), none, none, some (15, false), some (15, false), some (15, false), some (15, false), none, none, some (21, false), some (21, false), some (21, false), none, none, some (26, false), some (26, false), some (26, false), none, none, some (31, false), some (31, false), some (31, false), none, none, some (36, false), some (36, false), some (36, false), none, none, some (41, false), some (41, false), some (41, false), none] : List (Option (Nat × Bool))).getD i none | none => false) = true := by kernel_rfl
  refine wp_region_vals3 ([.pointer (some ⟨g, 0, none⟩), .int .u8 kd, .string (bsW (nmL kn)), .bool true, .bool true, undef, undef, undef, .bool true, .bool true, undef, undef, undef, undef, .bool true, .bool true, undef, undef, undef, undef, .bool true, .bool true, undef, undef, undef, .bool true, .bool true, undef, undef, undef, .bool true, .bool true, undef, undef, undef, .bool true, .bool true, undef, undef, undef, .bool true, .bool true, undef, undef, undef, .bool true] : List Value) [true, true, true, true, true, false, false, false, true, true, false, false, false, false, true, true, false, false, false, false, true, true, false, false, false, true, true, false, false, false, true, true, false, false, false, true, true, false, false, false, true, true, false, false, false, true] regR3_1_ds W T0 (by decide) (fun x hx => ?_) (by kernel_rfl) (by kernel_rfl) (fun i o j want ho hg => ?_) ?_ ?_
  · have hall : (regR3_1_ds.all fun d => decide (d < 78)) = true := by decide
    have := List.all_eq_true.1 hall x hx
    simp only [decide_eq_true_eq] at this
    omega
  · have hi : i < 46 := by rw [← hos]; exact (Array.getElem?_eq_some_iff.1 ho).1
    have h1 := List.all_eq_true.1 hga i (by simpa using hi)
    rw [ho] at h1
    simp only [hg, beq_iff_eq] at h1
    match i, hi with
    | 0, _ => cases h1
    | 1, _ => cases h1
    | 2, _ => cases h1
    | 3, _ => cases h1
    | 4, _ => cases h1
    | 5, _ => obtain ⟨rfl, rfl⟩ := Prod.mk.inj (Option.some.inj h1); rfl
    | 6, _ => obtain ⟨rfl, rfl⟩ := Prod.mk.inj (Option.some.inj h1); rfl
    | 7, _ => obtain ⟨rfl, rfl⟩ := Prod.mk.inj (Option.some.inj h1); rfl
    | 8, _ => cases h1
    | 9, _ => cases h1
    | 10, _ => obtain ⟨rfl, rfl⟩ := Prod.mk.inj (Option.some.inj h1); rfl
    | 11, _ => obtain ⟨rfl, rfl⟩ := Prod.mk.inj (Option.some.inj h1); rfl
    | 12, _ => obtain ⟨rfl, rfl⟩ := Prod.mk.inj (Option.some.inj h1); rfl
    | 13, _ => obtain ⟨rfl, rfl⟩ := Prod.mk.inj (Option.some.inj h1); rfl
    | 14, _ => cases h1
    | 15, _ => cases h1
    | 16, _ => obtain ⟨rfl, rfl⟩ := Prod.mk.inj (Option.some.inj h1); rfl
    | 17, _ => obtain ⟨rfl, rfl⟩ := Prod.mk.inj (Option.some.inj h1); rfl
    | 18, _ => obtain ⟨rfl, rfl⟩ := Prod.mk.inj (Option.some.inj h1); rfl
    | 19, _ => obtain ⟨rfl, rfl⟩ := Prod.mk.inj (Option.some.inj h1); rfl
    | 20, _ => cases h1
    | 21, _ => cases h1
    | 22, _ => obtain ⟨rfl, rfl⟩ := Prod.mk.inj (Option.some.inj h1); rfl
    | 23, _ => obtain ⟨rfl, rfl⟩ := Prod.mk.inj (Option.some.inj h1); rfl
    | 24, _ => obtain ⟨rfl, rfl⟩ := Prod.mk.inj (Option.some.inj h1); rfl
    | 25, _ => cases h1
    | 26, _ => cases h1
    | 27, _ => obtain ⟨rfl, rfl⟩ := Prod.mk.inj (Option.some.inj h1); rfl
    | 28, _ => obtain ⟨rfl, rfl⟩ := Prod.mk.inj (Option.some.inj h1); rfl
    | 29, _ => obtain ⟨rfl, rfl⟩ := Prod.mk.inj (Option.some.inj h1); rfl
    | 30, _ => cases h1
    | 31, _ => cases h1
    | 32, _ => obtain ⟨rfl, rfl⟩ := Prod.mk.inj (Option.some.inj h1); rfl
    | 33, _ => obtain ⟨rfl, rfl⟩ := Prod.mk.inj (Option.some.inj h1); rfl
    | 34, _ => obtain ⟨rfl, rfl⟩ := Prod.mk.inj (Option.some.inj h1); rfl
    | 35, _ => cases h1
    | 36, _ => cases h1
    | 37, _ => obtain ⟨rfl, rfl⟩ := Prod.mk.inj (Option.some.inj h1); rfl
    | 38, _ => obtain ⟨rfl, rfl⟩ := Prod.mk.inj (Option.some.inj h1); rfl
    | 39, _ => obtain ⟨rfl, rfl⟩ := Prod.mk.inj (Option.some.inj h1); rfl
    | 40, _ => cases h1
    | 41, _ => cases h1
    | 42, _ => obtain ⟨rfl, rfl⟩ := Prod.mk.inj (Option.some.inj h1); rfl
    | 43, _ => obtain ⟨rfl, rfl⟩ := Prod.mk.inj (Option.some.inj h1); rfl
    | 44, _ => obtain ⟨rfl, rfl⟩ := Prod.mk.inj (Option.some.inj h1); rfl
    | 45, _ => cases h1
    | i + 46, h => exact absurd (show i + 46 < 46 from h) (by omega)
  · intro i o ho hi hon a w hT hU hb K hK
    have hT0 : ∀ t v, t ∉ regR3_1_ds → T0[t]? = some v → a.tmps[t]?.getD undef = v := fun t v ht hv => by rw [hT t ht, hv]; rfl
    match i, hi with
    | 0, _ => exact v_field0 4 (opAtW ho (by kernel_rfl)) (hT0 4 _ (by decide) h4) (hK _ (Below.refl _ _))
    | 1, _ => exact v_loadB 32 (opAtW ho (by kernel_rfl)) (hU 0 (by kernel_rfl) rfl) (cell_of_row w g 0 _ _ _ (hg w hb)) (hK _ (Below.refl _ _))
    | 2, _ => exact v_nameR 33 (opAtW ho (by kernel_rfl)) (hU 1 (by kernel_rfl) rfl) (H1 w hb) (fun w' hb' => hK w' hb')
    | 3, _ => exact v_eqlsc 34 (opAtW ho (by kernel_rfl)) (hU 2 (by kernel_rfl) rfl) (c1) (hK _ (Below.refl _ _))
    | 4, _ => exact v_moveS 35 (opAtW ho (by kernel_rfl)) (hU 3 (by kernel_rfl) rfl) (hK _ (Below.refl _ _))
    | 5, _ => exact absurd hon (by decide)
    | 6, _ => exact absurd hon (by decide)
    | 7, _ => exact absurd hon (by decide)
    | 8, _ => exact v_orT 36 39 (opAtW ho (by kernel_rfl)) (hU 4 (by kernel_rfl) rfl) (hK _ (Below.refl _ _))
    | 9, _ => exact v_moveS 40 (opAtW ho (by kernel_rfl)) (hU 8 (by kernel_rfl) rfl) (hK _ (Below.refl _ _))
    | 10, _ => exact absurd hon (by decide)
    | 11, _ => exact absurd hon (by decide)
    | 12, _ => exact absurd hon (by decide)
    | 13, _ => exact absurd hon (by decide)
    | 14, _ => exact v_orT 41 45 (opAtW ho (by kernel_rfl)) (hU 9 (by kernel_rfl) rfl) (hK _ (Below.refl _ _))
    | 15, _ => exact v_moveS 46 (opAtW ho (by kernel_rfl)) (hU 14 (by kernel_rfl) rfl) (hK _ (Below.refl _ _))
    | 16, _ => exact absurd hon (by decide)
    | 17, _ => exact absurd hon (by decide)
    | 18, _ => exact absurd hon (by decide)
    | 19, _ => exact absurd hon (by decide)
    | 20, _ => exact v_orT 47 51 (opAtW ho (by kernel_rfl)) (hU 15 (by kernel_rfl) rfl) (hK _ (Below.refl _ _))
    | 21, _ => exact v_moveS 52 (opAtW ho (by kernel_rfl)) (hU 20 (by kernel_rfl) rfl) (hK _ (Below.refl _ _))
    | 22, _ => exact absurd hon (by decide)
    | 23, _ => exact absurd hon (by decide)
    | 24, _ => exact absurd hon (by decide)
    | 25, _ => exact v_orT 53 56 (opAtW ho (by kernel_rfl)) (hU 21 (by kernel_rfl) rfl) (hK _ (Below.refl _ _))
    | 26, _ => exact v_moveS 57 (opAtW ho (by kernel_rfl)) (hU 25 (by kernel_rfl) rfl) (hK _ (Below.refl _ _))
    | 27, _ => exact absurd hon (by decide)
    | 28, _ => exact absurd hon (by decide)
    | 29, _ => exact absurd hon (by decide)
    | 30, _ => exact v_orT 58 61 (opAtW ho (by kernel_rfl)) (hU 26 (by kernel_rfl) rfl) (hK _ (Below.refl _ _))
    | 31, _ => exact v_moveS 62 (opAtW ho (by kernel_rfl)) (hU 30 (by kernel_rfl) rfl) (hK _ (Below.refl _ _))
    | 32, _ => exact absurd hon (by decide)
    | 33, _ => exact absurd hon (by decide)
    | 34, _ => exact absurd hon (by decide)
    | 35, _ => exact v_orT 63 66 (opAtW ho (by kernel_rfl)) (hU 31 (by kernel_rfl) rfl) (hK _ (Below.refl _ _))
    | 36, _ => exact v_moveS 67 (opAtW ho (by kernel_rfl)) (hU 35 (by kernel_rfl) rfl) (hK _ (Below.refl _ _))
    | 37, _ => exact absurd hon (by decide)
    | 38, _ => exact absurd hon (by decide)
    | 39, _ => exact absurd hon (by decide)
    | 40, _ => exact v_orT 68 71 (opAtW ho (by kernel_rfl)) (hU 36 (by kernel_rfl) rfl) (hK _ (Below.refl _ _))
    | 41, _ => exact v_moveS 72 (opAtW ho (by kernel_rfl)) (hU 40 (by kernel_rfl) rfl) (hK _ (Below.refl _ _))
    | 42, _ => exact absurd hon (by decide)
    | 43, _ => exact absurd hon (by decide)
    | 44, _ => exact absurd hon (by decide)
    | 45, _ => exact v_orT 73 76 (opAtW ho (by kernel_rfl)) (hU 41 (by kernel_rfl) rfl) (hK _ (Below.refl _ _))
    | i + 46, h => exact absurd (show i + 46 < 46 from h) (by omega)
  · intro us w hu hb hv
    exact hend us w hu hb (hv 45 (by decide) rfl)
noncomputable def regR3_2_ops : Array Oper := opsW Tryd.f48 3
def regR3_2_ds : List Nat := [32, 33, 34, 35, 36, 37, 38, 39, 40, 41, 42, 43, 44, 45, 46, 47, 48, 49, 50, 51, 52, 53, 54, 55, 56, 57, 58, 59, 60, 61, 62, 63, 64, 65, 66, 67, 68, 69, 70, 71, 72, 73, 74, 75, 76, 77]
set_option maxRecDepth 100000 in
set_option maxHeartbeats 4000000 in
theorem regR3_2 {id : Nat} {ops : Array Oper} (hops : ops = regR3_2_ops) (T0 : Array Value) (hsz : 78 ≤ T0.size) (W : World) (g : Nat) (kn : Nat) (kd th tx pl v x why T b0 b1 b2 b3 b4 b5 b6 : Int) (hk : kd = kn) (hg : ∀ wx, Below W.heap.size W wx → wx.heap[g]? = some (.cells #[.int .u8 kd, .int .i64 th, .int .i64 tx, .int .i64 pl, .int .i64 v, .int .i64 x, .int .u8 why] 46 (0, 0))) (H1 : ∀ wx, Below W.heap.size W wx → Calls Tryd.prog 85 #[.int .u8 kd] wx fun r w' => r = .returned (.string (bsW (nmL kn))) ∧ Below wx.heap.size wx w') (H2 : ∀ wx, Below W.heap.size W wx → Calls Tryd.prog 86 #[.agg #[.int .u8 kd, .int .i64 th, .int .i64 tx, .int .i64 pl, .int .i64 v, .int .i64 x, .int .u8 why]] wx fun r w' => r = .returned (.agg #[.int .u8 b0, .int .i64 b1, .int .i64 b2, .int .i64 b3, .int .i64 b4, .int .i64 b5, .int .u8 b6]) ∧ Below wx.heap.size wx w') (c1 : (bsW (nmL kn)).toList.isEmpty = false) (c2 : decide (th < 0) = true) (h1 : T0[1]? = some (.int .i64 T)) (h4 : T0[4]? = some (.pointer (some ⟨g, 0, none⟩))) {Q : Exit → Act → World → Prop}
    (hend : ∀ (us : List Value) (w : World), us.length = 46 → Below W.heap.size W w → us.getD 45 undef = .bool true → Q .normal ⟨putAll T0 regR3_2_ds us, []⟩ w) : (Code.region id ops true).wp Tryd.prog Q ⟨T0, []⟩ W := by
  subst hops
  have hos : regR3_2_ops.size = 46 := by kernel_rfl
  have hga : (List.range 46).all (fun i => match regR3_2_ops[i]? with | some o => o.guard == ([none, none, none, none, none, some (4, false), some (4, false), some (4, false), none, none, some (9, false), some (9, false), some (9, false), some (9, false), none, none, some (15, false), some (15, false), some (15, false), some (15, false), none, none, some (21, false), some (21, false), some (21, false), none, none, some (26, false), some (26, false), some (26, false), none, none, some (31, false), some (31, false), some (31, false), none, none, some (36, false), some (36, false), some (36, false), none, none, some (41, false), some (41, false), some (41, false), none] : List (Option (Nat × Bool))).getD i none | none => false) = true := by kernel_rfl
  refine wp_region_vals3 ([.pointer (some ⟨g, 0, none⟩), .int .u8 kd, .string (bsW (nmL kn)), .bool false, .bool false, .pointer (some ⟨g, 1, none⟩), .int .i64 th, .bool true, .bool true, .bool true, undef, undef, undef, undef, .bool true, .bool true, undef, undef, undef, undef, .bool true, .bool true, undef, undef, undef, .bool true, .bool true, undef, undef, undef, .bool true, .bool true, undef, undef, undef, .bool true, .bool true, undef, undef, undef, .bool true, .bool true, undef, undef, undef, .bool true] : List Value) [true, true, true, true, true, true, true, true, true, true, false, false, false, false, true, true, false, false, false, false, true, true, false, false, false, true, true, false, false, false, true, true, false, false, false, true, true, false, false, false, true, true, false, false, false, true] regR3_2_ds W T0 (by decide) (fun x hx => ?_) (by kernel_rfl) (by kernel_rfl) (fun i o j want ho hg => ?_) ?_ ?_
  · have hall : (regR3_2_ds.all fun d => decide (d < 78)) = true := by decide
    have := List.all_eq_true.1 hall x hx
    simp only [decide_eq_true_eq] at this
    omega
  · have hi : i < 46 := by rw [← hos]; exact (Array.getElem?_eq_some_iff.1 ho).1
    have h1 := List.all_eq_true.1 hga i (by simpa using hi)
    rw [ho] at h1
    simp only [hg, beq_iff_eq] at h1
    match i, hi with
    | 0, _ => cases h1
    | 1, _ => cases h1
    | 2, _ => cases h1
    | 3, _ => cases h1
    | 4, _ => cases h1
    | 5, _ => obtain ⟨rfl, rfl⟩ := Prod.mk.inj (Option.some.inj h1); rfl
    | 6, _ => obtain ⟨rfl, rfl⟩ := Prod.mk.inj (Option.some.inj h1); rfl
    | 7, _ => obtain ⟨rfl, rfl⟩ := Prod.mk.inj (Option.some.inj h1); rfl
    | 8, _ => cases h1
    | 9, _ => cases h1
    | 10, _ => obtain ⟨rfl, rfl⟩ := Prod.mk.inj (Option.some.inj h1); rfl
    | 11, _ => obtain ⟨rfl, rfl⟩ := Prod.mk.inj (Option.some.inj h1); rfl
    | 12, _ => obtain ⟨rfl, rfl⟩ := Prod.mk.inj (Option.some.inj h1); rfl
    | 13, _ => obtain ⟨rfl, rfl⟩ := Prod.mk.inj (Option.some.inj h1); rfl
    | 14, _ => cases h1
    | 15, _ => cases h1
    | 16, _ => obtain ⟨rfl, rfl⟩ := Prod.mk.inj (Option.some.inj h1); rfl
    | 17, _ => obtain ⟨rfl, rfl⟩ := Prod.mk.inj (Option.some.inj h1); rfl
    | 18, _ => obtain ⟨rfl, rfl⟩ := Prod.mk.inj (Option.some.inj h1); rfl
    | 19, _ => obtain ⟨rfl, rfl⟩ := Prod.mk.inj (Option.some.inj h1); rfl
    | 20, _ => cases h1
    | 21, _ => cases h1
    | 22, _ => obtain ⟨rfl, rfl⟩ := Prod.mk.inj (Option.some.inj h1); rfl
    | 23, _ => obtain ⟨rfl, rfl⟩ := Prod.mk.inj (Option.some.inj h1); rfl
    | 24, _ => obtain ⟨rfl, rfl⟩ := Prod.mk.inj (Option.some.inj h1); rfl
    | 25, _ => cases h1
    | 26, _ => cases h1
    | 27, _ => obtain ⟨rfl, rfl⟩ := Prod.mk.inj (Option.some.inj h1); rfl
    | 28, _ => obtain ⟨rfl, rfl⟩ := Prod.mk.inj (Option.some.inj h1); rfl
    | 29, _ => obtain ⟨rfl, rfl⟩ := Prod.mk.inj (Option.some.inj h1); rfl
    | 30, _ => cases h1
    | 31, _ => cases h1
    | 32, _ => obtain ⟨rfl, rfl⟩ := Prod.mk.inj (Option.some.inj h1); rfl
    | 33, _ => obtain ⟨rfl, rfl⟩ := Prod.mk.inj (Option.some.inj h1); rfl
    | 34, _ => obtain ⟨rfl, rfl⟩ := Prod.mk.inj (Option.some.inj h1); rfl
    | 35, _ => cases h1
    | 36, _ => cases h1
    | 37, _ => obtain ⟨rfl, rfl⟩ := Prod.mk.inj (Option.some.inj h1); rfl
    | 38, _ => obtain ⟨rfl, rfl⟩ := Prod.mk.inj (Option.some.inj h1); rfl
    | 39, _ => obtain ⟨rfl, rfl⟩ := Prod.mk.inj (Option.some.inj h1); rfl
    | 40, _ => cases h1
    | 41, _ => cases h1
    | 42, _ => obtain ⟨rfl, rfl⟩ := Prod.mk.inj (Option.some.inj h1); rfl
    | 43, _ => obtain ⟨rfl, rfl⟩ := Prod.mk.inj (Option.some.inj h1); rfl
    | 44, _ => obtain ⟨rfl, rfl⟩ := Prod.mk.inj (Option.some.inj h1); rfl
    | 45, _ => cases h1
    | i + 46, h => exact absurd (show i + 46 < 46 from h) (by omega)
  · intro i o ho hi hon a w hT hU hb K hK
    have hT0 : ∀ t v, t ∉ regR3_2_ds → T0[t]? = some v → a.tmps[t]?.getD undef = v := fun t v ht hv => by rw [hT t ht, hv]; rfl
    match i, hi with
    | 0, _ => exact v_field0 4 (opAtW ho (by kernel_rfl)) (hT0 4 _ (by decide) h4) (hK _ (Below.refl _ _))
    | 1, _ => exact v_loadB 32 (opAtW ho (by kernel_rfl)) (hU 0 (by kernel_rfl) rfl) (cell_of_row w g 0 _ _ _ (hg w hb)) (hK _ (Below.refl _ _))
    | 2, _ => exact v_nameR 33 (opAtW ho (by kernel_rfl)) (hU 1 (by kernel_rfl) rfl) (H1 w hb) (fun w' hb' => hK w' hb')
    | 3, _ => exact v_eqlsc 34 (opAtW ho (by kernel_rfl)) (hU 2 (by kernel_rfl) rfl) (c1) (hK _ (Below.refl _ _))
    | 4, _ => exact v_moveS 35 (opAtW ho (by kernel_rfl)) (hU 3 (by kernel_rfl) rfl) (hK _ (Below.refl _ _))
    | 5, _ => exact v_field1 4 (opAtW ho (by kernel_rfl)) (hT0 4 _ (by decide) h4) (hK _ (Below.refl _ _))
    | 6, _ => exact s_loadI 37 (opAtW ho (by kernel_rfl)) (hU 5 (by kernel_rfl) rfl) (cell_of_row w g 1 _ _ _ (hg w hb)) (hK _ (Below.refl _ _))
    | 7, _ => exact v_lssc 38 (opAtW ho (by kernel_rfl)) (hU 6 (by kernel_rfl) rfl) (c2) (hK _ (Below.refl _ _))
    | 8, _ => exact v_orF 36 39 (opAtW ho (by kernel_rfl)) (hU 4 (by kernel_rfl) rfl) (hU 7 (by kernel_rfl) rfl) (hK _ (Below.refl _ _))
    | 9, _ => exact v_moveS 40 (opAtW ho (by kernel_rfl)) (hU 8 (by kernel_rfl) rfl) (hK _ (Below.refl _ _))
    | 10, _ => exact absurd hon (by decide)
    | 11, _ => exact absurd hon (by decide)
    | 12, _ => exact absurd hon (by decide)
    | 13, _ => exact absurd hon (by decide)
    | 14, _ => exact v_orT 41 45 (opAtW ho (by kernel_rfl)) (hU 9 (by kernel_rfl) rfl) (hK _ (Below.refl _ _))
    | 15, _ => exact v_moveS 46 (opAtW ho (by kernel_rfl)) (hU 14 (by kernel_rfl) rfl) (hK _ (Below.refl _ _))
    | 16, _ => exact absurd hon (by decide)
    | 17, _ => exact absurd hon (by decide)
    | 18, _ => exact absurd hon (by decide)
    | 19, _ => exact absurd hon (by decide)
    | 20, _ => exact v_orT 47 51 (opAtW ho (by kernel_rfl)) (hU 15 (by kernel_rfl) rfl) (hK _ (Below.refl _ _))
    | 21, _ => exact v_moveS 52 (opAtW ho (by kernel_rfl)) (hU 20 (by kernel_rfl) rfl) (hK _ (Below.refl _ _))
    | 22, _ => exact absurd hon (by decide)
    | 23, _ => exact absurd hon (by decide)
    | 24, _ => exact absurd hon (by decide)
    | 25, _ => exact v_orT 53 56 (opAtW ho (by kernel_rfl)) (hU 21 (by kernel_rfl) rfl) (hK _ (Below.refl _ _))
    | 26, _ => exact v_moveS 57 (opAtW ho (by kernel_rfl)) (hU 25 (by kernel_rfl) rfl) (hK _ (Below.refl _ _))
    | 27, _ => exact absurd hon (by decide)
    | 28, _ => exact absurd hon (by decide)
    | 29, _ => exact absurd hon (by decide)
    | 30, _ => exact v_orT 58 61 (opAtW ho (by kernel_rfl)) (hU 26 (by kernel_rfl) rfl) (hK _ (Below.refl _ _))
    | 31, _ => exact v_moveS 62 (opAtW ho (by kernel_rfl)) (hU 30 (by kernel_rfl) rfl) (hK _ (Below.refl _ _))
    | 32, _ => exact absurd hon (by decide)
    | 33, _ => exact absurd hon (by decide)
    | 34, _ => exact absurd hon (by decide)
    | 35, _ => exact v_orT 63 66 (opAtW ho (by kernel_rfl)) (hU 31 (by kernel_rfl) rfl) (hK _ (Below.refl _ _))
    | 36, _ => exact v_moveS 67 (opAtW ho (by kernel_rfl)) (hU 35 (by kernel_rfl) rfl) (hK _ (Below.refl _ _))
    | 37, _ => exact absurd hon (by decide)
    | 38, _ => exact absurd hon (by decide)
    | 39, _ => exact absurd hon (by decide)
    | 40, _ => exact v_orT 68 71 (opAtW ho (by kernel_rfl)) (hU 36 (by kernel_rfl) rfl) (hK _ (Below.refl _ _))
    | 41, _ => exact v_moveS 72 (opAtW ho (by kernel_rfl)) (hU 40 (by kernel_rfl) rfl) (hK _ (Below.refl _ _))
    | 42, _ => exact absurd hon (by decide)
    | 43, _ => exact absurd hon (by decide)
    | 44, _ => exact absurd hon (by decide)
    | 45, _ => exact v_orT 73 76 (opAtW ho (by kernel_rfl)) (hU 41 (by kernel_rfl) rfl) (hK _ (Below.refl _ _))
    | i + 46, h => exact absurd (show i + 46 < 46 from h) (by omega)
  · intro us w hu hb hv
    exact hend us w hu hb (hv 45 (by decide) rfl)
noncomputable def regR3_3_ops : Array Oper := opsW Tryd.f48 3
def regR3_3_ds : List Nat := [32, 33, 34, 35, 36, 37, 38, 39, 40, 41, 42, 43, 44, 45, 46, 47, 48, 49, 50, 51, 52, 53, 54, 55, 56, 57, 58, 59, 60, 61, 62, 63, 64, 65, 66, 67, 68, 69, 70, 71, 72, 73, 74, 75, 76, 77]
set_option maxRecDepth 100000 in
set_option maxHeartbeats 4000000 in
theorem regR3_3 {id : Nat} {ops : Array Oper} (hops : ops = regR3_3_ops) (T0 : Array Value) (hsz : 78 ≤ T0.size) (W : World) (g : Nat) (kn : Nat) (kd th tx pl v x why T b0 b1 b2 b3 b4 b5 b6 : Int) (hk : kd = kn) (hg : ∀ wx, Below W.heap.size W wx → wx.heap[g]? = some (.cells #[.int .u8 kd, .int .i64 th, .int .i64 tx, .int .i64 pl, .int .i64 v, .int .i64 x, .int .u8 why] 46 (0, 0))) (H1 : ∀ wx, Below W.heap.size W wx → Calls Tryd.prog 85 #[.int .u8 kd] wx fun r w' => r = .returned (.string (bsW (nmL kn))) ∧ Below wx.heap.size wx w') (H2 : ∀ wx, Below W.heap.size W wx → Calls Tryd.prog 86 #[.agg #[.int .u8 kd, .int .i64 th, .int .i64 tx, .int .i64 pl, .int .i64 v, .int .i64 x, .int .u8 why]] wx fun r w' => r = .returned (.agg #[.int .u8 b0, .int .i64 b1, .int .i64 b2, .int .i64 b3, .int .i64 b4, .int .i64 b5, .int .u8 b6]) ∧ Below wx.heap.size wx w') (c1 : (bsW (nmL kn)).toList.isEmpty = false) (c2 : decide (th < 0) = false) (c3 : decide (T ≤ th) = true) (h1 : T0[1]? = some (.int .i64 T)) (h4 : T0[4]? = some (.pointer (some ⟨g, 0, none⟩))) {Q : Exit → Act → World → Prop}
    (hend : ∀ (us : List Value) (w : World), us.length = 46 → Below W.heap.size W w → us.getD 45 undef = .bool true → Q .normal ⟨putAll T0 regR3_3_ds us, []⟩ w) : (Code.region id ops true).wp Tryd.prog Q ⟨T0, []⟩ W := by
  subst hops
  have hos : regR3_3_ops.size = 46 := by kernel_rfl
  have hga : (List.range 46).all (fun i => match regR3_3_ops[i]? with | some o => o.guard == ([none, none, none, none, none, some (4, false), some (4, false), some (4, false), none, none, some (9, false), some (9, false), some (9, false), some (9, false), none, none, some (15, false), some (15, false), some (15, false), some (15, false), none, none, some (21, false), some (21, false), some (21, false), none, none, some (26, false), some (26, false), some (26, false), none, none, some (31, false), some (31, false), some (31, false), none, none, some (36, false), some (36, false), some (36, false), none, none, some (41, false), some (41, false), some (41, false), none] : List (Option (Nat × Bool))).getD i none | none => false) = true := by kernel_rfl
  refine wp_region_vals3 ([.pointer (some ⟨g, 0, none⟩), .int .u8 kd, .string (bsW (nmL kn)), .bool false, .bool false, .pointer (some ⟨g, 1, none⟩), .int .i64 th, .bool false, .bool false, .bool false, .pointer (some ⟨g, 1, none⟩), .int .i64 th, .int .i64 T, .bool true, .bool true, .bool true, undef, undef, undef, undef, .bool true, .bool true, undef, undef, undef, .bool true, .bool true, undef, undef, undef, .bool true, .bool true, undef, undef, undef, .bool true, .bool true, undef, undef, undef, .bool true, .bool true, undef, undef, undef, .bool true] : List Value) [true, true, true, true, true, true, true, true, true, true, true, true, true, true, true, true, false, false, false, false, true, true, false, false, false, true, true, false, false, false, true, true, false, false, false, true, true, false, false, false, true, true, false, false, false, true] regR3_3_ds W T0 (by decide) (fun x hx => ?_) (by kernel_rfl) (by kernel_rfl) (fun i o j want ho hg => ?_) ?_ ?_
  · have hall : (regR3_3_ds.all fun d => decide (d < 78)) = true := by decide
    have := List.all_eq_true.1 hall x hx
    simp only [decide_eq_true_eq] at this
    omega
  · have hi : i < 46 := by rw [← hos]; exact (Array.getElem?_eq_some_iff.1 ho).1
    have h1 := List.all_eq_true.1 hga i (by simpa using hi)
    rw [ho] at h1
    simp only [hg, beq_iff_eq] at h1
    match i, hi with
    | 0, _ => cases h1
    | 1, _ => cases h1
    | 2, _ => cases h1
    | 3, _ => cases h1
    | 4, _ => cases h1
    | 5, _ => obtain ⟨rfl, rfl⟩ := Prod.mk.inj (Option.some.inj h1); rfl
    | 6, _ => obtain ⟨rfl, rfl⟩ := Prod.mk.inj (Option.some.inj h1); rfl
    | 7, _ => obtain ⟨rfl, rfl⟩ := Prod.mk.inj (Option.some.inj h1); rfl
    | 8, _ => cases h1
    | 9, _ => cases h1
    | 10, _ => obtain ⟨rfl, rfl⟩ := Prod.mk.inj (Option.some.inj h1); rfl
    | 11, _ => obtain ⟨rfl, rfl⟩ := Prod.mk.inj (Option.some.inj h1); rfl
    | 12, _ => obtain ⟨rfl, rfl⟩ := Prod.mk.inj (Option.some.inj h1); rfl
    | 13, _ => obtain ⟨rfl, rfl⟩ := Prod.mk.inj (Option.some.inj h1); rfl
    | 14, _ => cases h1
    | 15, _ => cases h1
    | 16, _ => obtain ⟨rfl, rfl⟩ := Prod.mk.inj (Option.some.inj h1); rfl
    | 17, _ => obtain ⟨rfl, rfl⟩ := Prod.mk.inj (Option.some.inj h1); rfl
    | 18, _ => obtain ⟨rfl, rfl⟩ := Prod.mk.inj (Option.some.inj h1); rfl
    | 19, _ => obtain ⟨rfl, rfl⟩ := Prod.mk.inj (Option.some.inj h1); rfl
    | 20, _ => cases h1
    | 21, _ => cases h1
    | 22, _ => obtain ⟨rfl, rfl⟩ := Prod.mk.inj (Option.some.inj h1); rfl
    | 23, _ => obtain ⟨rfl, rfl⟩ := Prod.mk.inj (Option.some.inj h1); rfl
    | 24, _ => obtain ⟨rfl, rfl⟩ := Prod.mk.inj (Option.some.inj h1); rfl
    | 25, _ => cases h1
    | 26, _ => cases h1
    | 27, _ => obtain ⟨rfl, rfl⟩ := Prod.mk.inj (Option.some.inj h1); rfl
    | 28, _ => obtain ⟨rfl, rfl⟩ := Prod.mk.inj (Option.some.inj h1); rfl
    | 29, _ => obtain ⟨rfl, rfl⟩ := Prod.mk.inj (Option.some.inj h1); rfl
    | 30, _ => cases h1
    | 31, _ => cases h1
    | 32, _ => obtain ⟨rfl, rfl⟩ := Prod.mk.inj (Option.some.inj h1); rfl
    | 33, _ => obtain ⟨rfl, rfl⟩ := Prod.mk.inj (Option.some.inj h1); rfl
    | 34, _ => obtain ⟨rfl, rfl⟩ := Prod.mk.inj (Option.some.inj h1); rfl
    | 35, _ => cases h1
    | 36, _ => cases h1
    | 37, _ => obtain ⟨rfl, rfl⟩ := Prod.mk.inj (Option.some.inj h1); rfl
    | 38, _ => obtain ⟨rfl, rfl⟩ := Prod.mk.inj (Option.some.inj h1); rfl
    | 39, _ => obtain ⟨rfl, rfl⟩ := Prod.mk.inj (Option.some.inj h1); rfl
    | 40, _ => cases h1
    | 41, _ => cases h1
    | 42, _ => obtain ⟨rfl, rfl⟩ := Prod.mk.inj (Option.some.inj h1); rfl
    | 43, _ => obtain ⟨rfl, rfl⟩ := Prod.mk.inj (Option.some.inj h1); rfl
    | 44, _ => obtain ⟨rfl, rfl⟩ := Prod.mk.inj (Option.some.inj h1); rfl
    | 45, _ => cases h1
    | i + 46, h => exact absurd (show i + 46 < 46 from h) (by omega)
  · intro i o ho hi hon a w hT hU hb K hK
    have hT0 : ∀ t v, t ∉ regR3_3_ds → T0[t]? = some v → a.tmps[t]?.getD undef = v := fun t v ht hv => by rw [hT t ht, hv]; rfl
    match i, hi with
    | 0, _ => exact v_field0 4 (opAtW ho (by kernel_rfl)) (hT0 4 _ (by decide) h4) (hK _ (Below.refl _ _))
    | 1, _ => exact v_loadB 32 (opAtW ho (by kernel_rfl)) (hU 0 (by kernel_rfl) rfl) (cell_of_row w g 0 _ _ _ (hg w hb)) (hK _ (Below.refl _ _))
    | 2, _ => exact v_nameR 33 (opAtW ho (by kernel_rfl)) (hU 1 (by kernel_rfl) rfl) (H1 w hb) (fun w' hb' => hK w' hb')
    | 3, _ => exact v_eqlsc 34 (opAtW ho (by kernel_rfl)) (hU 2 (by kernel_rfl) rfl) (c1) (hK _ (Below.refl _ _))
    | 4, _ => exact v_moveS 35 (opAtW ho (by kernel_rfl)) (hU 3 (by kernel_rfl) rfl) (hK _ (Below.refl _ _))
    | 5, _ => exact v_field1 4 (opAtW ho (by kernel_rfl)) (hT0 4 _ (by decide) h4) (hK _ (Below.refl _ _))
    | 6, _ => exact s_loadI 37 (opAtW ho (by kernel_rfl)) (hU 5 (by kernel_rfl) rfl) (cell_of_row w g 1 _ _ _ (hg w hb)) (hK _ (Below.refl _ _))
    | 7, _ => exact v_lssc 38 (opAtW ho (by kernel_rfl)) (hU 6 (by kernel_rfl) rfl) (c2) (hK _ (Below.refl _ _))
    | 8, _ => exact v_orF 36 39 (opAtW ho (by kernel_rfl)) (hU 4 (by kernel_rfl) rfl) (hU 7 (by kernel_rfl) rfl) (hK _ (Below.refl _ _))
    | 9, _ => exact v_moveS 40 (opAtW ho (by kernel_rfl)) (hU 8 (by kernel_rfl) rfl) (hK _ (Below.refl _ _))
    | 10, _ => exact v_field1 4 (opAtW ho (by kernel_rfl)) (hT0 4 _ (by decide) h4) (hK _ (Below.refl _ _))
    | 11, _ => exact s_loadI 42 (opAtW ho (by kernel_rfl)) (hU 10 (by kernel_rfl) rfl) (cell_of_row w g 1 _ _ _ (hg w hb)) (hK _ (Below.refl _ _))
    | 12, _ => exact v_moveS 1 (opAtW ho (by kernel_rfl)) (hT0 1 _ (by decide) h1) (hK _ (Below.refl _ _))
    | 13, _ => exact v_geq 43 44 (opAtW ho (by kernel_rfl)) (hU 11 (by kernel_rfl) rfl) (hU 12 (by kernel_rfl) rfl) (c3) (hK _ (Below.refl _ _))
    | 14, _ => exact v_orF 41 45 (opAtW ho (by kernel_rfl)) (hU 9 (by kernel_rfl) rfl) (hU 13 (by kernel_rfl) rfl) (hK _ (Below.refl _ _))
    | 15, _ => exact v_moveS 46 (opAtW ho (by kernel_rfl)) (hU 14 (by kernel_rfl) rfl) (hK _ (Below.refl _ _))
    | 16, _ => exact absurd hon (by decide)
    | 17, _ => exact absurd hon (by decide)
    | 18, _ => exact absurd hon (by decide)
    | 19, _ => exact absurd hon (by decide)
    | 20, _ => exact v_orT 47 51 (opAtW ho (by kernel_rfl)) (hU 15 (by kernel_rfl) rfl) (hK _ (Below.refl _ _))
    | 21, _ => exact v_moveS 52 (opAtW ho (by kernel_rfl)) (hU 20 (by kernel_rfl) rfl) (hK _ (Below.refl _ _))
    | 22, _ => exact absurd hon (by decide)
    | 23, _ => exact absurd hon (by decide)
    | 24, _ => exact absurd hon (by decide)
    | 25, _ => exact v_orT 53 56 (opAtW ho (by kernel_rfl)) (hU 21 (by kernel_rfl) rfl) (hK _ (Below.refl _ _))
    | 26, _ => exact v_moveS 57 (opAtW ho (by kernel_rfl)) (hU 25 (by kernel_rfl) rfl) (hK _ (Below.refl _ _))
    | 27, _ => exact absurd hon (by decide)
    | 28, _ => exact absurd hon (by decide)
    | 29, _ => exact absurd hon (by decide)
    | 30, _ => exact v_orT 58 61 (opAtW ho (by kernel_rfl)) (hU 26 (by kernel_rfl) rfl) (hK _ (Below.refl _ _))
    | 31, _ => exact v_moveS 62 (opAtW ho (by kernel_rfl)) (hU 30 (by kernel_rfl) rfl) (hK _ (Below.refl _ _))
    | 32, _ => exact absurd hon (by decide)
    | 33, _ => exact absurd hon (by decide)
    | 34, _ => exact absurd hon (by decide)
    | 35, _ => exact v_orT 63 66 (opAtW ho (by kernel_rfl)) (hU 31 (by kernel_rfl) rfl) (hK _ (Below.refl _ _))
    | 36, _ => exact v_moveS 67 (opAtW ho (by kernel_rfl)) (hU 35 (by kernel_rfl) rfl) (hK _ (Below.refl _ _))
    | 37, _ => exact absurd hon (by decide)
    | 38, _ => exact absurd hon (by decide)
    | 39, _ => exact absurd hon (by decide)
    | 40, _ => exact v_orT 68 71 (opAtW ho (by kernel_rfl)) (hU 36 (by kernel_rfl) rfl) (hK _ (Below.refl _ _))
    | 41, _ => exact v_moveS 72 (opAtW ho (by kernel_rfl)) (hU 40 (by kernel_rfl) rfl) (hK _ (Below.refl _ _))
    | 42, _ => exact absurd hon (by decide)
    | 43, _ => exact absurd hon (by decide)
    | 44, _ => exact absurd hon (by decide)
    | 45, _ => exact v_orT 73 76 (opAtW ho (by kernel_rfl)) (hU 41 (by kernel_rfl) rfl) (hK _ (Below.refl _ _))
    | i + 46, h => exact absurd (show i + 46 < 46 from h) (by omega)
  · intro us w hu hb hv
    exact hend us w hu hb (hv 45 (by decide) rfl)
noncomputable def regR3_4_ops : Array Oper := opsW Tryd.f48 3
def regR3_4_ds : List Nat := [32, 33, 34, 35, 36, 37, 38, 39, 40, 41, 42, 43, 44, 45, 46, 47, 48, 49, 50, 51, 52, 53, 54, 55, 56, 57, 58, 59, 60, 61, 62, 63, 64, 65, 66, 67, 68, 69, 70, 71, 72, 73, 74, 75, 76, 77]
set_option maxRecDepth 100000 in
set_option maxHeartbeats 4000000 in
theorem regR3_4 {id : Nat} {ops : Array Oper} (hops : ops = regR3_4_ops) (T0 : Array Value) (hsz : 78 ≤ T0.size) (W : World) (g : Nat) (kn : Nat) (kd th tx pl v x why T b0 b1 b2 b3 b4 b5 b6 : Int) (hk : kd = kn) (hg : ∀ wx, Below W.heap.size W wx → wx.heap[g]? = some (.cells #[.int .u8 kd, .int .i64 th, .int .i64 tx, .int .i64 pl, .int .i64 v, .int .i64 x, .int .u8 why] 46 (0, 0))) (H1 : ∀ wx, Below W.heap.size W wx → Calls Tryd.prog 85 #[.int .u8 kd] wx fun r w' => r = .returned (.string (bsW (nmL kn))) ∧ Below wx.heap.size wx w') (H2 : ∀ wx, Below W.heap.size W wx → Calls Tryd.prog 86 #[.agg #[.int .u8 kd, .int .i64 th, .int .i64 tx, .int .i64 pl, .int .i64 v, .int .i64 x, .int .u8 why]] wx fun r w' => r = .returned (.agg #[.int .u8 b0, .int .i64 b1, .int .i64 b2, .int .i64 b3, .int .i64 b4, .int .i64 b5, .int .u8 b6]) ∧ Below wx.heap.size wx w') (c1 : (bsW (nmL kn)).toList.isEmpty = false) (c2 : decide (th < 0) = false) (c3 : decide (T ≤ th) = false) (c4 : (!(b0 == kd && (b1 == th && (b2 == tx && (b3 == pl && (b4 == v && (b5 == x && b6 == why))))))) = true) (h1 : T0[1]? = some (.int .i64 T)) (h4 : T0[4]? = some (.pointer (some ⟨g, 0, none⟩))) {Q : Exit → Act → World → Prop}
    (hend : ∀ (us : List Value) (w : World), us.length = 46 → Below W.heap.size W w → us.getD 45 undef = .bool true → Q .normal ⟨putAll T0 regR3_4_ds us, []⟩ w) : (Code.region id ops true).wp Tryd.prog Q ⟨T0, []⟩ W := by
  subst hops
  have hos : regR3_4_ops.size = 46 := by kernel_rfl
  have hga : (List.range 46).all (fun i => match regR3_4_ops[i]? with | some o => o.guard == ([none, none, none, none, none, some (4, false), some (4, false), some (4, false), none, none, some (9, false), some (9, false), some (9, false), some (9, false), none, none, some (15, false), some (15, false), some (15, false), some (15, false), none, none, some (21, false), some (21, false), some (21, false), none, none, some (26, false), some (26, false), some (26, false), none, none, some (31, false), some (31, false), some (31, false), none, none, some (36, false), some (36, false), some (36, false), none, none, some (41, false), some (41, false), some (41, false), none] : List (Option (Nat × Bool))).getD i none | none => false) = true := by kernel_rfl
  refine wp_region_vals3 ([.pointer (some ⟨g, 0, none⟩), .int .u8 kd, .string (bsW (nmL kn)), .bool false, .bool false, .pointer (some ⟨g, 1, none⟩), .int .i64 th, .bool false, .bool false, .bool false, .pointer (some ⟨g, 1, none⟩), .int .i64 th, .int .i64 T, .bool false, .bool false, .bool false, .agg #[.int .u8 kd, .int .i64 th, .int .i64 tx, .int .i64 pl, .int .i64 v, .int .i64 x, .int .u8 why], .agg #[.int .u8 b0, .int .i64 b1, .int .i64 b2, .int .i64 b3, .int .i64 b4, .int .i64 b5, .int .u8 b6], .agg #[.int .u8 kd, .int .i64 th, .int .i64 tx, .int .i64 pl, .int .i64 v, .int .i64 x, .int .u8 why], .bool true, .bool true, .bool true, undef, undef, undef, .bool true, .bool true, undef, undef, undef, .bool true, .bool true, undef, undef, undef, .bool true, .bool true, undef, undef, undef, .bool true, .bool true, undef, undef, undef, .bool true] : List Value) [true, true, true, true, true, true, true, true, true, true, true, true, true, true, true, true, true, true, true, true, true, true, false, false, false, true, true, false, false, false, true, true, false, false, false, true, true, false, false, false, true, true, false, false, false, true] regR3_4_ds W T0 (by decide) (fun x hx => ?_) (by kernel_rfl) (by kernel_rfl) (fun i o j want ho hg => ?_) ?_ ?_
  · have hall : (regR3_4_ds.all fun d => decide (d < 78)) = true := by decide
    have := List.all_eq_true.1 hall x hx
    simp only [decide_eq_true_eq] at this
    omega
  · have hi : i < 46 := by rw [← hos]; exact (Array.getElem?_eq_some_iff.1 ho).1
    have h1 := List.all_eq_true.1 hga i (by simpa using hi)
    rw [ho] at h1
    simp only [hg, beq_iff_eq] at h1
    match i, hi with
    | 0, _ => cases h1
    | 1, _ => cases h1
    | 2, _ => cases h1
    | 3, _ => cases h1
    | 4, _ => cases h1
    | 5, _ => obtain ⟨rfl, rfl⟩ := Prod.mk.inj (Option.some.inj h1); rfl
    | 6, _ => obtain ⟨rfl, rfl⟩ := Prod.mk.inj (Option.some.inj h1); rfl
    | 7, _ => obtain ⟨rfl, rfl⟩ := Prod.mk.inj (Option.some.inj h1); rfl
    | 8, _ => cases h1
    | 9, _ => cases h1
    | 10, _ => obtain ⟨rfl, rfl⟩ := Prod.mk.inj (Option.some.inj h1); rfl
    | 11, _ => obtain ⟨rfl, rfl⟩ := Prod.mk.inj (Option.some.inj h1); rfl
    | 12, _ => obtain ⟨rfl, rfl⟩ := Prod.mk.inj (Option.some.inj h1); rfl
    | 13, _ => obtain ⟨rfl, rfl⟩ := Prod.mk.inj (Option.some.inj h1); rfl
    | 14, _ => cases h1
    | 15, _ => cases h1
    | 16, _ => obtain ⟨rfl, rfl⟩ := Prod.mk.inj (Option.some.inj h1); rfl
    | 17, _ => obtain ⟨rfl, rfl⟩ := Prod.mk.inj (Option.some.inj h1); rfl
    | 18, _ => obtain ⟨rfl, rfl⟩ := Prod.mk.inj (Option.some.inj h1); rfl
    | 19, _ => obtain ⟨rfl, rfl⟩ := Prod.mk.inj (Option.some.inj h1); rfl
    | 20, _ => cases h1
    | 21, _ => cases h1
    | 22, _ => obtain ⟨rfl, rfl⟩ := Prod.mk.inj (Option.some.inj h1); rfl
    | 23, _ => obtain ⟨rfl, rfl⟩ := Prod.mk.inj (Option.some.inj h1); rfl
    | 24, _ => obtain ⟨rfl, rfl⟩ := Prod.mk.inj (Option.some.inj h1); rfl
    | 25, _ => cases h1
    | 26, _ => cases h1
    | 27, _ => obtain ⟨rfl, rfl⟩ := Prod.mk.inj (Option.some.inj h1); rfl
    | 28, _ => obtain ⟨rfl, rfl⟩ := Prod.mk.inj (Option.some.inj h1); rfl
    | 29, _ => obtain ⟨rfl, rfl⟩ := Prod.mk.inj (Option.some.inj h1); rfl
    | 30, _ => cases h1
    | 31, _ => cases h1
    | 32, _ => obtain ⟨rfl, rfl⟩ := Prod.mk.inj (Option.some.inj h1); rfl
    | 33, _ => obtain ⟨rfl, rfl⟩ := Prod.mk.inj (Option.some.inj h1); rfl
    | 34, _ => obtain ⟨rfl, rfl⟩ := Prod.mk.inj (Option.some.inj h1); rfl
    | 35, _ => cases h1
    | 36, _ => cases h1
    | 37, _ => obtain ⟨rfl, rfl⟩ := Prod.mk.inj (Option.some.inj h1); rfl
    | 38, _ => obtain ⟨rfl, rfl⟩ := Prod.mk.inj (Option.some.inj h1); rfl
    | 39, _ => obtain ⟨rfl, rfl⟩ := Prod.mk.inj (Option.some.inj h1); rfl
    | 40, _ => cases h1
    | 41, _ => cases h1
    | 42, _ => obtain ⟨rfl, rfl⟩ := Prod.mk.inj (Option.some.inj h1); rfl
    | 43, _ => obtain ⟨rfl, rfl⟩ := Prod.mk.inj (Option.some.inj h1); rfl
    | 44, _ => obtain ⟨rfl, rfl⟩ := Prod.mk.inj (Option.some.inj h1); rfl
    | 45, _ => cases h1
    | i + 46, h => exact absurd (show i + 46 < 46 from h) (by omega)
  · intro i o ho hi hon a w hT hU hb K hK
    have hT0 : ∀ t v, t ∉ regR3_4_ds → T0[t]? = some v → a.tmps[t]?.getD undef = v := fun t v ht hv => by rw [hT t ht, hv]; rfl
    match i, hi with
    | 0, _ => exact v_field0 4 (opAtW ho (by kernel_rfl)) (hT0 4 _ (by decide) h4) (hK _ (Below.refl _ _))
    | 1, _ => exact v_loadB 32 (opAtW ho (by kernel_rfl)) (hU 0 (by kernel_rfl) rfl) (cell_of_row w g 0 _ _ _ (hg w hb)) (hK _ (Below.refl _ _))
    | 2, _ => exact v_nameR 33 (opAtW ho (by kernel_rfl)) (hU 1 (by kernel_rfl) rfl) (H1 w hb) (fun w' hb' => hK w' hb')
    | 3, _ => exact v_eqlsc 34 (opAtW ho (by kernel_rfl)) (hU 2 (by kernel_rfl) rfl) (c1) (hK _ (Below.refl _ _))
    | 4, _ => exact v_moveS 35 (opAtW ho (by kernel_rfl)) (hU 3 (by kernel_rfl) rfl) (hK _ (Below.refl _ _))
    | 5, _ => exact v_field1 4 (opAtW ho (by kernel_rfl)) (hT0 4 _ (by decide) h4) (hK _ (Below.refl _ _))
    | 6, _ => exact s_loadI 37 (opAtW ho (by kernel_rfl)) (hU 5 (by kernel_rfl) rfl) (cell_of_row w g 1 _ _ _ (hg w hb)) (hK _ (Below.refl _ _))
    | 7, _ => exact v_lssc 38 (opAtW ho (by kernel_rfl)) (hU 6 (by kernel_rfl) rfl) (c2) (hK _ (Below.refl _ _))
    | 8, _ => exact v_orF 36 39 (opAtW ho (by kernel_rfl)) (hU 4 (by kernel_rfl) rfl) (hU 7 (by kernel_rfl) rfl) (hK _ (Below.refl _ _))
    | 9, _ => exact v_moveS 40 (opAtW ho (by kernel_rfl)) (hU 8 (by kernel_rfl) rfl) (hK _ (Below.refl _ _))
    | 10, _ => exact v_field1 4 (opAtW ho (by kernel_rfl)) (hT0 4 _ (by decide) h4) (hK _ (Below.refl _ _))
    | 11, _ => exact s_loadI 42 (opAtW ho (by kernel_rfl)) (hU 10 (by kernel_rfl) rfl) (cell_of_row w g 1 _ _ _ (hg w hb)) (hK _ (Below.refl _ _))
    | 12, _ => exact v_moveS 1 (opAtW ho (by kernel_rfl)) (hT0 1 _ (by decide) h1) (hK _ (Below.refl _ _))
    | 13, _ => exact v_geq 43 44 (opAtW ho (by kernel_rfl)) (hU 11 (by kernel_rfl) rfl) (hU 12 (by kernel_rfl) rfl) (c3) (hK _ (Below.refl _ _))
    | 14, _ => exact v_orF 41 45 (opAtW ho (by kernel_rfl)) (hU 9 (by kernel_rfl) rfl) (hU 13 (by kernel_rfl) rfl) (hK _ (Below.refl _ _))
    | 15, _ => exact v_moveS 46 (opAtW ho (by kernel_rfl)) (hU 14 (by kernel_rfl) rfl) (hK _ (Below.refl _ _))
    | 16, _ => exact v_loadE 4 (opAtW ho (by kernel_rfl)) (hT0 4 _ (by decide) h4) (hg w hb) rfl (hK _ (Below.refl _ _))
    | 17, _ => exact v_bare 48 (opAtW ho (by kernel_rfl)) (hU 16 (by kernel_rfl) rfl) (H2 w hb) (fun w' hb' => hK w' hb')
    | 18, _ => exact v_loadE 4 (opAtW ho (by kernel_rfl)) (hT0 4 _ (by decide) h4) (hg w hb) rfl (hK _ (Below.refl _ _))
    | 19, _ => exact v_neqE 49 50 (opAtW ho (by kernel_rfl)) (hU 17 (by kernel_rfl) rfl) (hU 18 (by kernel_rfl) rfl) (c4) (hK _ (Below.refl _ _))
    | 20, _ => exact v_orF 47 51 (opAtW ho (by kernel_rfl)) (hU 15 (by kernel_rfl) rfl) (hU 19 (by kernel_rfl) rfl) (hK _ (Below.refl _ _))
    | 21, _ => exact v_moveS 52 (opAtW ho (by kernel_rfl)) (hU 20 (by kernel_rfl) rfl) (hK _ (Below.refl _ _))
    | 22, _ => exact absurd hon (by decide)
    | 23, _ => exact absurd hon (by decide)
    | 24, _ => exact absurd hon (by decide)
    | 25, _ => exact v_orT 53 56 (opAtW ho (by kernel_rfl)) (hU 21 (by kernel_rfl) rfl) (hK _ (Below.refl _ _))
    | 26, _ => exact v_moveS 57 (opAtW ho (by kernel_rfl)) (hU 25 (by kernel_rfl) rfl) (hK _ (Below.refl _ _))
    | 27, _ => exact absurd hon (by decide)
    | 28, _ => exact absurd hon (by decide)
    | 29, _ => exact absurd hon (by decide)
    | 30, _ => exact v_orT 58 61 (opAtW ho (by kernel_rfl)) (hU 26 (by kernel_rfl) rfl) (hK _ (Below.refl _ _))
    | 31, _ => exact v_moveS 62 (opAtW ho (by kernel_rfl)) (hU 30 (by kernel_rfl) rfl) (hK _ (Below.refl _ _))
    | 32, _ => exact absurd hon (by decide)
    | 33, _ => exact absurd hon (by decide)
    | 34, _ => exact absurd hon (by decide)
    | 35, _ => exact v_orT 63 66 (opAtW ho (by kernel_rfl)) (hU 31 (by kernel_rfl) rfl) (hK _ (Below.refl _ _))
    | 36, _ => exact v_moveS 67 (opAtW ho (by kernel_rfl)) (hU 35 (by kernel_rfl) rfl) (hK _ (Below.refl _ _))
    | 37, _ => exact absurd hon (by decide)
    | 38, _ => exact absurd hon (by decide)
    | 39, _ => exact absurd hon (by decide)
    | 40, _ => exact v_orT 68 71 (opAtW ho (by kernel_rfl)) (hU 36 (by kernel_rfl) rfl) (hK _ (Below.refl _ _))
    | 41, _ => exact v_moveS 72 (opAtW ho (by kernel_rfl)) (hU 40 (by kernel_rfl) rfl) (hK _ (Below.refl _ _))
    | 42, _ => exact absurd hon (by decide)
    | 43, _ => exact absurd hon (by decide)
    | 44, _ => exact absurd hon (by decide)
    | 45, _ => exact v_orT 73 76 (opAtW ho (by kernel_rfl)) (hU 41 (by kernel_rfl) rfl) (hK _ (Below.refl _ _))
    | i + 46, h => exact absurd (show i + 46 < 46 from h) (by omega)
  · intro us w hu hb hv
    exact hend us w hu hb (hv 45 (by decide) rfl)
noncomputable def regR3_5_ops : Array Oper := opsW Tryd.f48 3
def regR3_5_ds : List Nat := [32, 33, 34, 35, 36, 37, 38, 39, 40, 41, 42, 43, 44, 45, 46, 47, 48, 49, 50, 51, 52, 53, 54, 55, 56, 57, 58, 59, 60, 61, 62, 63, 64, 65, 66, 67, 68, 69, 70, 71, 72, 73, 74, 75, 76, 77]
set_option maxRecDepth 100000 in
set_option maxHeartbeats 4000000 in
theorem regR3_5 {id : Nat} {ops : Array Oper} (hops : ops = regR3_5_ops) (T0 : Array Value) (hsz : 78 ≤ T0.size) (W : World) (g : Nat) (kn : Nat) (kd th tx pl v x why T b0 b1 b2 b3 b4 b5 b6 : Int) (hk : kd = kn) (hg : ∀ wx, Below W.heap.size W wx → wx.heap[g]? = some (.cells #[.int .u8 kd, .int .i64 th, .int .i64 tx, .int .i64 pl, .int .i64 v, .int .i64 x, .int .u8 why] 46 (0, 0))) (H1 : ∀ wx, Below W.heap.size W wx → Calls Tryd.prog 85 #[.int .u8 kd] wx fun r w' => r = .returned (.string (bsW (nmL kn))) ∧ Below wx.heap.size wx w') (H2 : ∀ wx, Below W.heap.size W wx → Calls Tryd.prog 86 #[.agg #[.int .u8 kd, .int .i64 th, .int .i64 tx, .int .i64 pl, .int .i64 v, .int .i64 x, .int .u8 why]] wx fun r w' => r = .returned (.agg #[.int .u8 b0, .int .i64 b1, .int .i64 b2, .int .i64 b3, .int .i64 b4, .int .i64 b5, .int .u8 b6]) ∧ Below wx.heap.size wx w') (c1 : (bsW (nmL kn)).toList.isEmpty = false) (c2 : decide (th < 0) = false) (c3 : decide (T ≤ th) = false) (c4 : (!(b0 == kd && (b1 == th && (b2 == tx && (b3 == pl && (b4 == v && (b5 == x && b6 == why))))))) = false) (c5 : decide (tx < 0) = true) (h1 : T0[1]? = some (.int .i64 T)) (h4 : T0[4]? = some (.pointer (some ⟨g, 0, none⟩))) {Q : Exit → Act → World → Prop}
    (hend : ∀ (us : List Value) (w : World), us.length = 46 → Below W.heap.size W w → us.getD 45 undef = .bool true → Q .normal ⟨putAll T0 regR3_5_ds us, []⟩ w) : (Code.region id ops true).wp Tryd.prog Q ⟨T0, []⟩ W := by
  subst hops
  have hos : regR3_5_ops.size = 46 := by kernel_rfl
  have hga : (List.range 46).all (fun i => match regR3_5_ops[i]? with | some o => o.guard == ([none, none, none, none, none, some (4, false), some (4, false), some (4, false), none, none, some (9, false), some (9, false), some (9, false), some (9, false), none, none, some (15, false), some (15, false), some (15, false), some (15, false), none, none, some (21, false), some (21, false), some (21, false), none, none, some (26, false), some (26, false), some (26, false), none, none, some (31, false), some (31, false), some (31, false), none, none, some (36, false), some (36, false), some (36, false), none, none, some (41, false), some (41, false), some (41, false), none] : List (Option (Nat × Bool))).getD i none | none => false) = true := by kernel_rfl
  refine wp_region_vals3 ([.pointer (some ⟨g, 0, none⟩), .int .u8 kd, .string (bsW (nmL kn)), .bool false, .bool false, .pointer (some ⟨g, 1, none⟩), .int .i64 th, .bool false, .bool false, .bool false, .pointer (some ⟨g, 1, none⟩), .int .i64 th, .int .i64 T, .bool false, .bool false, .bool false, .agg #[.int .u8 kd, .int .i64 th, .int .i64 tx, .int .i64 pl, .int .i64 v, .int .i64 x, .int .u8 why], .agg #[.int .u8 b0, .int .i64 b1, .int .i64 b2, .int .i64 b3, .int .i64 b4, .int .i64 b5, .int .u8 b6], .agg #[.int .u8 kd, .int .i64 th, .int .i64 tx, .int .i64 pl, .int .i64 v, .int .i64 x, .int .u8 why], .bool false, .bool false, .bool false, .pointer (some ⟨g, 2, none⟩), .int .i64 tx, .bool true, .bool true, .bool true, undef, undef, undef, .bool true, .bool true, undef, undef, undef, .bool true, .bool true, undef, undef, undef, .bool true, .bool true, undef, undef, undef, .bool true] : List Value) [true, true, true, true, true, true, true, true, true, true, true, true, true, true, true, true, true, true, true, true, true, true, true, true, true, true, true, false, false, false, true, true, false, false, false, true, true, false, false, false, true, true, false, false, false, true] regR3_5_ds W T0 (by decide) (fun x hx => ?_) (by kernel_rfl) (by kernel_rfl) (fun i o j want ho hg => ?_) ?_ ?_
  · have hall : (regR3_5_ds.all fun d => decide (d < 78)) = true := by decide
    have := List.all_eq_true.1 hall x hx
    simp only [decide_eq_true_eq] at this
    omega
  · have hi : i < 46 := by rw [← hos]; exact (Array.getElem?_eq_some_iff.1 ho).1
    have h1 := List.all_eq_true.1 hga i (by simpa using hi)
    rw [ho] at h1
    simp only [hg, beq_iff_eq] at h1
    match i, hi with
    | 0, _ => cases h1
    | 1, _ => cases h1
    | 2, _ => cases h1
    | 3, _ => cases h1
    | 4, _ => cases h1
    | 5, _ => obtain ⟨rfl, rfl⟩ := Prod.mk.inj (Option.some.inj h1); rfl
    | 6, _ => obtain ⟨rfl, rfl⟩ := Prod.mk.inj (Option.some.inj h1); rfl
    | 7, _ => obtain ⟨rfl, rfl⟩ := Prod.mk.inj (Option.some.inj h1); rfl
    | 8, _ => cases h1
    | 9, _ => cases h1
    | 10, _ => obtain ⟨rfl, rfl⟩ := Prod.mk.inj (Option.some.inj h1); rfl
    | 11, _ => obtain ⟨rfl, rfl⟩ := Prod.mk.inj (Option.some.inj h1); rfl
    | 12, _ => obtain ⟨rfl, rfl⟩ := Prod.mk.inj (Option.some.inj h1); rfl
    | 13, _ => obtain ⟨rfl, rfl⟩ := Prod.mk.inj (Option.some.inj h1); rfl
    | 14, _ => cases h1
    | 15, _ => cases h1
    | 16, _ => obtain ⟨rfl, rfl⟩ := Prod.mk.inj (Option.some.inj h1); rfl
    | 17, _ => obtain ⟨rfl, rfl⟩ := Prod.mk.inj (Option.some.inj h1); rfl
    | 18, _ => obtain ⟨rfl, rfl⟩ := Prod.mk.inj (Option.some.inj h1); rfl
    | 19, _ => obtain ⟨rfl, rfl⟩ := Prod.mk.inj (Option.some.inj h1); rfl
    | 20, _ => cases h1
    | 21, _ => cases h1
    | 22, _ => obtain ⟨rfl, rfl⟩ := Prod.mk.inj (Option.some.inj h1); rfl
    | 23, _ => obtain ⟨rfl, rfl⟩ := Prod.mk.inj (Option.some.inj h1); rfl
    | 24, _ => obtain ⟨rfl, rfl⟩ := Prod.mk.inj (Option.some.inj h1); rfl
    | 25, _ => cases h1
    | 26, _ => cases h1
    | 27, _ => obtain ⟨rfl, rfl⟩ := Prod.mk.inj (Option.some.inj h1); rfl
    | 28, _ => obtain ⟨rfl, rfl⟩ := Prod.mk.inj (Option.some.inj h1); rfl
    | 29, _ => obtain ⟨rfl, rfl⟩ := Prod.mk.inj (Option.some.inj h1); rfl
    | 30, _ => cases h1
    | 31, _ => cases h1
    | 32, _ => obtain ⟨rfl, rfl⟩ := Prod.mk.inj (Option.some.inj h1); rfl
    | 33, _ => obtain ⟨rfl, rfl⟩ := Prod.mk.inj (Option.some.inj h1); rfl
    | 34, _ => obtain ⟨rfl, rfl⟩ := Prod.mk.inj (Option.some.inj h1); rfl
    | 35, _ => cases h1
    | 36, _ => cases h1
    | 37, _ => obtain ⟨rfl, rfl⟩ := Prod.mk.inj (Option.some.inj h1); rfl
    | 38, _ => obtain ⟨rfl, rfl⟩ := Prod.mk.inj (Option.some.inj h1); rfl
    | 39, _ => obtain ⟨rfl, rfl⟩ := Prod.mk.inj (Option.some.inj h1); rfl
    | 40, _ => cases h1
    | 41, _ => cases h1
    | 42, _ => obtain ⟨rfl, rfl⟩ := Prod.mk.inj (Option.some.inj h1); rfl
    | 43, _ => obtain ⟨rfl, rfl⟩ := Prod.mk.inj (Option.some.inj h1); rfl
    | 44, _ => obtain ⟨rfl, rfl⟩ := Prod.mk.inj (Option.some.inj h1); rfl
    | 45, _ => cases h1
    | i + 46, h => exact absurd (show i + 46 < 46 from h) (by omega)
  · intro i o ho hi hon a w hT hU hb K hK
    have hT0 : ∀ t v, t ∉ regR3_5_ds → T0[t]? = some v → a.tmps[t]?.getD undef = v := fun t v ht hv => by rw [hT t ht, hv]; rfl
    match i, hi with
    | 0, _ => exact v_field0 4 (opAtW ho (by kernel_rfl)) (hT0 4 _ (by decide) h4) (hK _ (Below.refl _ _))
    | 1, _ => exact v_loadB 32 (opAtW ho (by kernel_rfl)) (hU 0 (by kernel_rfl) rfl) (cell_of_row w g 0 _ _ _ (hg w hb)) (hK _ (Below.refl _ _))
    | 2, _ => exact v_nameR 33 (opAtW ho (by kernel_rfl)) (hU 1 (by kernel_rfl) rfl) (H1 w hb) (fun w' hb' => hK w' hb')
    | 3, _ => exact v_eqlsc 34 (opAtW ho (by kernel_rfl)) (hU 2 (by kernel_rfl) rfl) (c1) (hK _ (Below.refl _ _))
    | 4, _ => exact v_moveS 35 (opAtW ho (by kernel_rfl)) (hU 3 (by kernel_rfl) rfl) (hK _ (Below.refl _ _))
    | 5, _ => exact v_field1 4 (opAtW ho (by kernel_rfl)) (hT0 4 _ (by decide) h4) (hK _ (Below.refl _ _))
    | 6, _ => exact s_loadI 37 (opAtW ho (by kernel_rfl)) (hU 5 (by kernel_rfl) rfl) (cell_of_row w g 1 _ _ _ (hg w hb)) (hK _ (Below.refl _ _))
    | 7, _ => exact v_lssc 38 (opAtW ho (by kernel_rfl)) (hU 6 (by kernel_rfl) rfl) (c2) (hK _ (Below.refl _ _))
    | 8, _ => exact v_orF 36 39 (opAtW ho (by kernel_rfl)) (hU 4 (by kernel_rfl) rfl) (hU 7 (by kernel_rfl) rfl) (hK _ (Below.refl _ _))
    | 9, _ => exact v_moveS 40 (opAtW ho (by kernel_rfl)) (hU 8 (by kernel_rfl) rfl) (hK _ (Below.refl _ _))
    | 10, _ => exact v_field1 4 (opAtW ho (by kernel_rfl)) (hT0 4 _ (by decide) h4) (hK _ (Below.refl _ _))
    | 11, _ => exact s_loadI 42 (opAtW ho (by kernel_rfl)) (hU 10 (by kernel_rfl) rfl) (cell_of_row w g 1 _ _ _ (hg w hb)) (hK _ (Below.refl _ _))
    | 12, _ => exact v_moveS 1 (opAtW ho (by kernel_rfl)) (hT0 1 _ (by decide) h1) (hK _ (Below.refl _ _))
    | 13, _ => exact v_geq 43 44 (opAtW ho (by kernel_rfl)) (hU 11 (by kernel_rfl) rfl) (hU 12 (by kernel_rfl) rfl) (c3) (hK _ (Below.refl _ _))
    | 14, _ => exact v_orF 41 45 (opAtW ho (by kernel_rfl)) (hU 9 (by kernel_rfl) rfl) (hU 13 (by kernel_rfl) rfl) (hK _ (Below.refl _ _))
    | 15, _ => exact v_moveS 46 (opAtW ho (by kernel_rfl)) (hU 14 (by kernel_rfl) rfl) (hK _ (Below.refl _ _))
    | 16, _ => exact v_loadE 4 (opAtW ho (by kernel_rfl)) (hT0 4 _ (by decide) h4) (hg w hb) rfl (hK _ (Below.refl _ _))
    | 17, _ => exact v_bare 48 (opAtW ho (by kernel_rfl)) (hU 16 (by kernel_rfl) rfl) (H2 w hb) (fun w' hb' => hK w' hb')
    | 18, _ => exact v_loadE 4 (opAtW ho (by kernel_rfl)) (hT0 4 _ (by decide) h4) (hg w hb) rfl (hK _ (Below.refl _ _))
    | 19, _ => exact v_neqE 49 50 (opAtW ho (by kernel_rfl)) (hU 17 (by kernel_rfl) rfl) (hU 18 (by kernel_rfl) rfl) (c4) (hK _ (Below.refl _ _))
    | 20, _ => exact v_orF 47 51 (opAtW ho (by kernel_rfl)) (hU 15 (by kernel_rfl) rfl) (hU 19 (by kernel_rfl) rfl) (hK _ (Below.refl _ _))
    | 21, _ => exact v_moveS 52 (opAtW ho (by kernel_rfl)) (hU 20 (by kernel_rfl) rfl) (hK _ (Below.refl _ _))
    | 22, _ => exact v_field2 4 (opAtW ho (by kernel_rfl)) (hT0 4 _ (by decide) h4) (hK _ (Below.refl _ _))
    | 23, _ => exact s_loadI 54 (opAtW ho (by kernel_rfl)) (hU 22 (by kernel_rfl) rfl) (cell_of_row w g 2 _ _ _ (hg w hb)) (hK _ (Below.refl _ _))
    | 24, _ => exact v_lssc 55 (opAtW ho (by kernel_rfl)) (hU 23 (by kernel_rfl) rfl) (c5) (hK _ (Below.refl _ _))
    | 25, _ => exact v_orF 53 56 (opAtW ho (by kernel_rfl)) (hU 21 (by kernel_rfl) rfl) (hU 24 (by kernel_rfl) rfl) (hK _ (Below.refl _ _))
    | 26, _ => exact v_moveS 57 (opAtW ho (by kernel_rfl)) (hU 25 (by kernel_rfl) rfl) (hK _ (Below.refl _ _))
    | 27, _ => exact absurd hon (by decide)
    | 28, _ => exact absurd hon (by decide)
    | 29, _ => exact absurd hon (by decide)
    | 30, _ => exact v_orT 58 61 (opAtW ho (by kernel_rfl)) (hU 26 (by kernel_rfl) rfl) (hK _ (Below.refl _ _))
    | 31, _ => exact v_moveS 62 (opAtW ho (by kernel_rfl)) (hU 30 (by kernel_rfl) rfl) (hK _ (Below.refl _ _))
    | 32, _ => exact absurd hon (by decide)
    | 33, _ => exact absurd hon (by decide)
    | 34, _ => exact absurd hon (by decide)
    | 35, _ => exact v_orT 63 66 (opAtW ho (by kernel_rfl)) (hU 31 (by kernel_rfl) rfl) (hK _ (Below.refl _ _))
    | 36, _ => exact v_moveS 67 (opAtW ho (by kernel_rfl)) (hU 35 (by kernel_rfl) rfl) (hK _ (Below.refl _ _))
    | 37, _ => exact absurd hon (by decide)
    | 38, _ => exact absurd hon (by decide)
    | 39, _ => exact absurd hon (by decide)
    | 40, _ => exact v_orT 68 71 (opAtW ho (by kernel_rfl)) (hU 36 (by kernel_rfl) rfl) (hK _ (Below.refl _ _))
    | 41, _ => exact v_moveS 72 (opAtW ho (by kernel_rfl)) (hU 40 (by kernel_rfl) rfl) (hK _ (Below.refl _ _))
    | 42, _ => exact absurd hon (by decide)
    | 43, _ => exact absurd hon (by decide)
    | 44, _ => exact absurd hon (by decide)
    | 45, _ => exact v_orT 73 76 (opAtW ho (by kernel_rfl)) (hU 41 (by kernel_rfl) rfl) (hK _ (Below.refl _ _))
    | i + 46, h => exact absurd (show i + 46 < 46 from h) (by omega)
  · intro us w hu hb hv
    exact hend us w hu hb (hv 45 (by decide) rfl)
noncomputable def regR3_6_ops : Array Oper := opsW Tryd.f48 3
def regR3_6_ds : List Nat := [32, 33, 34, 35, 36, 37, 38, 39, 40, 41, 42, 43, 44, 45, 46, 47, 48, 49, 50, 51, 52, 53, 54, 55, 56, 57, 58, 59, 60, 61, 62, 63, 64, 65, 66, 67, 68, 69, 70, 71, 72, 73, 74, 75, 76, 77]
set_option maxRecDepth 100000 in
set_option maxHeartbeats 4000000 in
theorem regR3_6 {id : Nat} {ops : Array Oper} (hops : ops = regR3_6_ops) (T0 : Array Value) (hsz : 78 ≤ T0.size) (W : World) (g : Nat) (kn : Nat) (kd th tx pl v x why T b0 b1 b2 b3 b4 b5 b6 : Int) (hk : kd = kn) (hg : ∀ wx, Below W.heap.size W wx → wx.heap[g]? = some (.cells #[.int .u8 kd, .int .i64 th, .int .i64 tx, .int .i64 pl, .int .i64 v, .int .i64 x, .int .u8 why] 46 (0, 0))) (H1 : ∀ wx, Below W.heap.size W wx → Calls Tryd.prog 85 #[.int .u8 kd] wx fun r w' => r = .returned (.string (bsW (nmL kn))) ∧ Below wx.heap.size wx w') (H2 : ∀ wx, Below W.heap.size W wx → Calls Tryd.prog 86 #[.agg #[.int .u8 kd, .int .i64 th, .int .i64 tx, .int .i64 pl, .int .i64 v, .int .i64 x, .int .u8 why]] wx fun r w' => r = .returned (.agg #[.int .u8 b0, .int .i64 b1, .int .i64 b2, .int .i64 b3, .int .i64 b4, .int .i64 b5, .int .u8 b6]) ∧ Below wx.heap.size wx w') (c1 : (bsW (nmL kn)).toList.isEmpty = false) (c2 : decide (th < 0) = false) (c3 : decide (T ≤ th) = false) (c4 : (!(b0 == kd && (b1 == th && (b2 == tx && (b3 == pl && (b4 == v && (b5 == x && b6 == why))))))) = false) (c5 : decide (tx < 0) = false) (c6 : decide (6 ≤ tx) = true) (h1 : T0[1]? = some (.int .i64 T)) (h4 : T0[4]? = some (.pointer (some ⟨g, 0, none⟩))) {Q : Exit → Act → World → Prop}
    (hend : ∀ (us : List Value) (w : World), us.length = 46 → Below W.heap.size W w → us.getD 45 undef = .bool true → Q .normal ⟨putAll T0 regR3_6_ds us, []⟩ w) : (Code.region id ops true).wp Tryd.prog Q ⟨T0, []⟩ W := by
  subst hops
  have hos : regR3_6_ops.size = 46 := by kernel_rfl
  have hga : (List.range 46).all (fun i => match regR3_6_ops[i]? with | some o => o.guard == ([none, none, none, none, none, some (4, false), some (4, false), some (4, false), none, none, some (9, false), some (9, false), some (9, false), some (9, false), none, none, some (15, false), some (15, false), some (15, false), some (15, false), none, none, some (21, false), some (21, false), some (21, false), none, none, some (26, false), some (26, false), some (26, false), none, none, some (31, false), some (31, false), some (31, false), none, none, some (36, false), some (36, false), some (36, false), none, none, some (41, false), some (41, false), some (41, false), none] : List (Option (Nat × Bool))).getD i none | none => false) = true := by kernel_rfl
  refine wp_region_vals3 ([.pointer (some ⟨g, 0, none⟩), .int .u8 kd, .string (bsW (nmL kn)), .bool false, .bool false, .pointer (some ⟨g, 1, none⟩), .int .i64 th, .bool false, .bool false, .bool false, .pointer (some ⟨g, 1, none⟩), .int .i64 th, .int .i64 T, .bool false, .bool false, .bool false, .agg #[.int .u8 kd, .int .i64 th, .int .i64 tx, .int .i64 pl, .int .i64 v, .int .i64 x, .int .u8 why], .agg #[.int .u8 b0, .int .i64 b1, .int .i64 b2, .int .i64 b3, .int .i64 b4, .int .i64 b5, .int .u8 b6], .agg #[.int .u8 kd, .int .i64 th, .int .i64 tx, .int .i64 pl, .int .i64 v, .int .i64 x, .int .u8 why], .bool false, .bool false, .bool false, .pointer (some ⟨g, 2, none⟩), .int .i64 tx, .bool false, .bool false, .bool false, .pointer (some ⟨g, 2, none⟩), .int .i64 tx, .bool true, .bool true, .bool true, undef, undef, undef, .bool true, .bool true, undef, undef, undef, .bool true, .bool true, undef, undef, undef, .bool true] : List Value) [true, true, true, true, true, true, true, true, true, true, true, true, true, true, true, true, true, true, true, true, true, true, true, true, true, true, true, true, true, true, true, true, false, false, false, true, true, false, false, false, true, true, false, false, false, true] regR3_6_ds W T0 (by decide) (fun x hx => ?_) (by kernel_rfl) (by kernel_rfl) (fun i o j want ho hg => ?_) ?_ ?_
  · have hall : (regR3_6_ds.all fun d => decide (d < 78)) = true := by decide
    have := List.all_eq_true.1 hall x hx
    simp only [decide_eq_true_eq] at this
    omega
  · have hi : i < 46 := by rw [← hos]; exact (Array.getElem?_eq_some_iff.1 ho).1
    have h1 := List.all_eq_true.1 hga i (by simpa using hi)
    rw [ho] at h1
    simp only [hg, beq_iff_eq] at h1
    match i, hi with
    | 0, _ => cases h1
    | 1, _ => cases h1
    | 2, _ => cases h1
    | 3, _ => cases h1
    | 4, _ => cases h1
    | 5, _ => obtain ⟨rfl, rfl⟩ := Prod.mk.inj (Option.some.inj h1); rfl
    | 6, _ => obtain ⟨rfl, rfl⟩ := Prod.mk.inj (Option.some.inj h1); rfl
    | 7, _ => obtain ⟨rfl, rfl⟩ := Prod.mk.inj (Option.some.inj h1); rfl
    | 8, _ => cases h1
    | 9, _ => cases h1
    | 10, _ => obtain ⟨rfl, rfl⟩ := Prod.mk.inj (Option.some.inj h1); rfl
    | 11, _ => obtain ⟨rfl, rfl⟩ := Prod.mk.inj (Option.some.inj h1); rfl
    | 12, _ => obtain ⟨rfl, rfl⟩ := Prod.mk.inj (Option.some.inj h1); rfl
    | 13, _ => obtain ⟨rfl, rfl⟩ := Prod.mk.inj (Option.some.inj h1); rfl
    | 14, _ => cases h1
    | 15, _ => cases h1
    | 16, _ => obtain ⟨rfl, rfl⟩ := Prod.mk.inj (Option.some.inj h1); rfl
    | 17, _ => obtain ⟨rfl, rfl⟩ := Prod.mk.inj (Option.some.inj h1); rfl
    | 18, _ => obtain ⟨rfl, rfl⟩ := Prod.mk.inj (Option.some.inj h1); rfl
    | 19, _ => obtain ⟨rfl, rfl⟩ := Prod.mk.inj (Option.some.inj h1); rfl
    | 20, _ => cases h1
    | 21, _ => cases h1
    | 22, _ => obtain ⟨rfl, rfl⟩ := Prod.mk.inj (Option.some.inj h1); rfl
    | 23, _ => obtain ⟨rfl, rfl⟩ := Prod.mk.inj (Option.some.inj h1); rfl
    | 24, _ => obtain ⟨rfl, rfl⟩ := Prod.mk.inj (Option.some.inj h1); rfl
    | 25, _ => cases h1
    | 26, _ => cases h1
    | 27, _ => obtain ⟨rfl, rfl⟩ := Prod.mk.inj (Option.some.inj h1); rfl
    | 28, _ => obtain ⟨rfl, rfl⟩ := Prod.mk.inj (Option.some.inj h1); rfl
    | 29, _ => obtain ⟨rfl, rfl⟩ := Prod.mk.inj (Option.some.inj h1); rfl
    | 30, _ => cases h1
    | 31, _ => cases h1
    | 32, _ => obtain ⟨rfl, rfl⟩ := Prod.mk.inj (Option.some.inj h1); rfl
    | 33, _ => obtain ⟨rfl, rfl⟩ := Prod.mk.inj (Option.some.inj h1); rfl
    | 34, _ => obtain ⟨rfl, rfl⟩ := Prod.mk.inj (Option.some.inj h1); rfl
    | 35, _ => cases h1
    | 36, _ => cases h1
    | 37, _ => obtain ⟨rfl, rfl⟩ := Prod.mk.inj (Option.some.inj h1); rfl
    | 38, _ => obtain ⟨rfl, rfl⟩ := Prod.mk.inj (Option.some.inj h1); rfl
    | 39, _ => obtain ⟨rfl, rfl⟩ := Prod.mk.inj (Option.some.inj h1); rfl
    | 40, _ => cases h1
    | 41, _ => cases h1
    | 42, _ => obtain ⟨rfl, rfl⟩ := Prod.mk.inj (Option.some.inj h1); rfl
    | 43, _ => obtain ⟨rfl, rfl⟩ := Prod.mk.inj (Option.some.inj h1); rfl
    | 44, _ => obtain ⟨rfl, rfl⟩ := Prod.mk.inj (Option.some.inj h1); rfl
    | 45, _ => cases h1
    | i + 46, h => exact absurd (show i + 46 < 46 from h) (by omega)
  · intro i o ho hi hon a w hT hU hb K hK
    have hT0 : ∀ t v, t ∉ regR3_6_ds → T0[t]? = some v → a.tmps[t]?.getD undef = v := fun t v ht hv => by rw [hT t ht, hv]; rfl
    match i, hi with
    | 0, _ => exact v_field0 4 (opAtW ho (by kernel_rfl)) (hT0 4 _ (by decide) h4) (hK _ (Below.refl _ _))
    | 1, _ => exact v_loadB 32 (opAtW ho (by kernel_rfl)) (hU 0 (by kernel_rfl) rfl) (cell_of_row w g 0 _ _ _ (hg w hb)) (hK _ (Below.refl _ _))
    | 2, _ => exact v_nameR 33 (opAtW ho (by kernel_rfl)) (hU 1 (by kernel_rfl) rfl) (H1 w hb) (fun w' hb' => hK w' hb')
    | 3, _ => exact v_eqlsc 34 (opAtW ho (by kernel_rfl)) (hU 2 (by kernel_rfl) rfl) (c1) (hK _ (Below.refl _ _))
    | 4, _ => exact v_moveS 35 (opAtW ho (by kernel_rfl)) (hU 3 (by kernel_rfl) rfl) (hK _ (Below.refl _ _))
    | 5, _ => exact v_field1 4 (opAtW ho (by kernel_rfl)) (hT0 4 _ (by decide) h4) (hK _ (Below.refl _ _))
    | 6, _ => exact s_loadI 37 (opAtW ho (by kernel_rfl)) (hU 5 (by kernel_rfl) rfl) (cell_of_row w g 1 _ _ _ (hg w hb)) (hK _ (Below.refl _ _))
    | 7, _ => exact v_lssc 38 (opAtW ho (by kernel_rfl)) (hU 6 (by kernel_rfl) rfl) (c2) (hK _ (Below.refl _ _))
    | 8, _ => exact v_orF 36 39 (opAtW ho (by kernel_rfl)) (hU 4 (by kernel_rfl) rfl) (hU 7 (by kernel_rfl) rfl) (hK _ (Below.refl _ _))
    | 9, _ => exact v_moveS 40 (opAtW ho (by kernel_rfl)) (hU 8 (by kernel_rfl) rfl) (hK _ (Below.refl _ _))
    | 10, _ => exact v_field1 4 (opAtW ho (by kernel_rfl)) (hT0 4 _ (by decide) h4) (hK _ (Below.refl _ _))
    | 11, _ => exact s_loadI 42 (opAtW ho (by kernel_rfl)) (hU 10 (by kernel_rfl) rfl) (cell_of_row w g 1 _ _ _ (hg w hb)) (hK _ (Below.refl _ _))
    | 12, _ => exact v_moveS 1 (opAtW ho (by kernel_rfl)) (hT0 1 _ (by decide) h1) (hK _ (Below.refl _ _))
    | 13, _ => exact v_geq 43 44 (opAtW ho (by kernel_rfl)) (hU 11 (by kernel_rfl) rfl) (hU 12 (by kernel_rfl) rfl) (c3) (hK _ (Below.refl _ _))
    | 14, _ => exact v_orF 41 45 (opAtW ho (by kernel_rfl)) (hU 9 (by kernel_rfl) rfl) (hU 13 (by kernel_rfl) rfl) (hK _ (Below.refl _ _))
    | 15, _ => exact v_moveS 46 (opAtW ho (by kernel_rfl)) (hU 14 (by kernel_rfl) rfl) (hK _ (Below.refl _ _))
    | 16, _ => exact v_loadE 4 (opAtW ho (by kernel_rfl)) (hT0 4 _ (by decide) h4) (hg w hb) rfl (hK _ (Below.refl _ _))
    | 17, _ => exact v_bare 48 (opAtW ho (by kernel_rfl)) (hU 16 (by kernel_rfl) rfl) (H2 w hb) (fun w' hb' => hK w' hb')
    | 18, _ => exact v_loadE 4 (opAtW ho (by kernel_rfl)) (hT0 4 _ (by decide) h4) (hg w hb) rfl (hK _ (Below.refl _ _))
    | 19, _ => exact v_neqE 49 50 (opAtW ho (by kernel_rfl)) (hU 17 (by kernel_rfl) rfl) (hU 18 (by kernel_rfl) rfl) (c4) (hK _ (Below.refl _ _))
    | 20, _ => exact v_orF 47 51 (opAtW ho (by kernel_rfl)) (hU 15 (by kernel_rfl) rfl) (hU 19 (by kernel_rfl) rfl) (hK _ (Below.refl _ _))
    | 21, _ => exact v_moveS 52 (opAtW ho (by kernel_rfl)) (hU 20 (by kernel_rfl) rfl) (hK _ (Below.refl _ _))
    | 22, _ => exact v_field2 4 (opAtW ho (by kernel_rfl)) (hT0 4 _ (by decide) h4) (hK _ (Below.refl _ _))
    | 23, _ => exact s_loadI 54 (opAtW ho (by kernel_rfl)) (hU 22 (by kernel_rfl) rfl) (cell_of_row w g 2 _ _ _ (hg w hb)) (hK _ (Below.refl _ _))
    | 24, _ => exact v_lssc 55 (opAtW ho (by kernel_rfl)) (hU 23 (by kernel_rfl) rfl) (c5) (hK _ (Below.refl _ _))
    | 25, _ => exact v_orF 53 56 (opAtW ho (by kernel_rfl)) (hU 21 (by kernel_rfl) rfl) (hU 24 (by kernel_rfl) rfl) (hK _ (Below.refl _ _))
    | 26, _ => exact v_moveS 57 (opAtW ho (by kernel_rfl)) (hU 25 (by kernel_rfl) rfl) (hK _ (Below.refl _ _))
    | 27, _ => exact v_field2 4 (opAtW ho (by kernel_rfl)) (hT0 4 _ (by decide) h4) (hK _ (Below.refl _ _))
    | 28, _ => exact s_loadI 59 (opAtW ho (by kernel_rfl)) (hU 27 (by kernel_rfl) rfl) (cell_of_row w g 2 _ _ _ (hg w hb)) (hK _ (Below.refl _ _))
    | 29, _ => exact v_geqc 60 (opAtW ho (by kernel_rfl)) (hU 28 (by kernel_rfl) rfl) (c6) (hK _ (Below.refl _ _))
    | 30, _ => exact v_orF 58 61 (opAtW ho (by kernel_rfl)) (hU 26 (by kernel_rfl) rfl) (hU 29 (by kernel_rfl) rfl) (hK _ (Below.refl _ _))
    | 31, _ => exact v_moveS 62 (opAtW ho (by kernel_rfl)) (hU 30 (by kernel_rfl) rfl) (hK _ (Below.refl _ _))
    | 32, _ => exact absurd hon (by decide)
    | 33, _ => exact absurd hon (by decide)
    | 34, _ => exact absurd hon (by decide)
    | 35, _ => exact v_orT 63 66 (opAtW ho (by kernel_rfl)) (hU 31 (by kernel_rfl) rfl) (hK _ (Below.refl _ _))
    | 36, _ => exact v_moveS 67 (opAtW ho (by kernel_rfl)) (hU 35 (by kernel_rfl) rfl) (hK _ (Below.refl _ _))
    | 37, _ => exact absurd hon (by decide)
    | 38, _ => exact absurd hon (by decide)
    | 39, _ => exact absurd hon (by decide)
    | 40, _ => exact v_orT 68 71 (opAtW ho (by kernel_rfl)) (hU 36 (by kernel_rfl) rfl) (hK _ (Below.refl _ _))
    | 41, _ => exact v_moveS 72 (opAtW ho (by kernel_rfl)) (hU 40 (by kernel_rfl) rfl) (hK _ (Below.refl _ _))
    | 42, _ => exact absurd hon (by decide)
    | 43, _ => exact absurd hon (by decide)
    | 44, _ => exact absurd hon (by decide)
    | 45, _ => exact v_orT 73 76 (opAtW ho (by kernel_rfl)) (hU 41 (by kernel_rfl) rfl) (hK _ (Below.refl _ _))
    | i + 46, h => exact absurd (show i + 46 < 46 from h) (by omega)
  · intro us w hu hb hv
    exact hend us w hu hb (hv 45 (by decide) rfl)
noncomputable def regR3_7_ops : Array Oper := opsW Tryd.f48 3
def regR3_7_ds : List Nat := [32, 33, 34, 35, 36, 37, 38, 39, 40, 41, 42, 43, 44, 45, 46, 47, 48, 49, 50, 51, 52, 53, 54, 55, 56, 57, 58, 59, 60, 61, 62, 63, 64, 65, 66, 67, 68, 69, 70, 71, 72, 73, 74, 75, 76, 77]
set_option maxRecDepth 100000 in
set_option maxHeartbeats 4000000 in
theorem regR3_7 {id : Nat} {ops : Array Oper} (hops : ops = regR3_7_ops) (T0 : Array Value) (hsz : 78 ≤ T0.size) (W : World) (g : Nat) (kn : Nat) (kd th tx pl v x why T b0 b1 b2 b3 b4 b5 b6 : Int) (hk : kd = kn) (hg : ∀ wx, Below W.heap.size W wx → wx.heap[g]? = some (.cells #[.int .u8 kd, .int .i64 th, .int .i64 tx, .int .i64 pl, .int .i64 v, .int .i64 x, .int .u8 why] 46 (0, 0))) (H1 : ∀ wx, Below W.heap.size W wx → Calls Tryd.prog 85 #[.int .u8 kd] wx fun r w' => r = .returned (.string (bsW (nmL kn))) ∧ Below wx.heap.size wx w') (H2 : ∀ wx, Below W.heap.size W wx → Calls Tryd.prog 86 #[.agg #[.int .u8 kd, .int .i64 th, .int .i64 tx, .int .i64 pl, .int .i64 v, .int .i64 x, .int .u8 why]] wx fun r w' => r = .returned (.agg #[.int .u8 b0, .int .i64 b1, .int .i64 b2, .int .i64 b3, .int .i64 b4, .int .i64 b5, .int .u8 b6]) ∧ Below wx.heap.size wx w') (c1 : (bsW (nmL kn)).toList.isEmpty = false) (c2 : decide (th < 0) = false) (c3 : decide (T ≤ th) = false) (c4 : (!(b0 == kd && (b1 == th && (b2 == tx && (b3 == pl && (b4 == v && (b5 == x && b6 == why))))))) = false) (c5 : decide (tx < 0) = false) (c6 : decide (6 ≤ tx) = false) (c7 : decide (v < 0) = true) (h1 : T0[1]? = some (.int .i64 T)) (h4 : T0[4]? = some (.pointer (some ⟨g, 0, none⟩))) {Q : Exit → Act → World → Prop}
    (hend : ∀ (us : List Value) (w : World), us.length = 46 → Below W.heap.size W w → us.getD 45 undef = .bool true → Q .normal ⟨putAll T0 regR3_7_ds us, []⟩ w) : (Code.region id ops true).wp Tryd.prog Q ⟨T0, []⟩ W := by
  subst hops
  have hos : regR3_7_ops.size = 46 := by kernel_rfl
  have hga : (List.range 46).all (fun i => match regR3_7_ops[i]? with | some o => o.guard == ([none, none, none, none, none, some (4, false), some (4, false), some (4, false), none, none, some (9, false), some (9, false), some (9, false), some (9, false), none, none, some (15, false), some (15, false), some (15, false), some (15, false), none, none, some (21, false), some (21, false), some (21, false), none, none, some (26, false), some (26, false), some (26, false), none, none, some (31, false), some (31, false), some (31, false), none, none, some (36, false), some (36, false), some (36, false), none, none, some (41, false), some (41, false), some (41, false), none] : List (Option (Nat × Bool))).getD i none | none => false) = true := by kernel_rfl
  refine wp_region_vals3 ([.pointer (some ⟨g, 0, none⟩), .int .u8 kd, .string (bsW (nmL kn)), .bool false, .bool false, .pointer (some ⟨g, 1, none⟩), .int .i64 th, .bool false, .bool false, .bool false, .pointer (some ⟨g, 1, none⟩), .int .i64 th, .int .i64 T, .bool false, .bool false, .bool false, .agg #[.int .u8 kd, .int .i64 th, .int .i64 tx, .int .i64 pl, .int .i64 v, .int .i64 x, .int .u8 why], .agg #[.int .u8 b0, .int .i64 b1, .int .i64 b2, .int .i64 b3, .int .i64 b4, .int .i64 b5, .int .u8 b6], .agg #[.int .u8 kd, .int .i64 th, .int .i64 tx, .int .i64 pl, .int .i64 v, .int .i64 x, .int .u8 why], .bool false, .bool false, .bool false, .pointer (some ⟨g, 2, none⟩), .int .i64 tx, .bool false, .bool false, .bool false, .pointer (some ⟨g, 2, none⟩), .int .i64 tx, .bool false, .bool false, .bool false, .pointer (some ⟨g, 4, none⟩), .int .i64 v, .bool true, .bool true, .bool true, undef, undef, undef, .bool true, .bool true, undef, undef, undef, .bool true] : List Value) [true, true, true, true, true, true, true, true, true, true, true, true, true, true, true, true, true, true, true, true, true, true, true, true, true, true, true, true, true, true, true, true, true, true, true, true, true, false, false, false, true, true, false, false, false, true] regR3_7_ds W T0 (by decide) (fun x hx => ?_) (by kernel_rfl) (by kernel_rfl) (fun i o j want ho hg => ?_) ?_ ?_
  · have hall : (regR3_7_ds.all fun d => decide (d < 78)) = true := by decide
    have := List.all_eq_true.1 hall x hx
    simp only [decide_eq_true_eq] at this
    omega
  · have hi : i < 46 := by rw [← hos]; exact (Array.getElem?_eq_some_iff.1 ho).1
    have h1 := List.all_eq_true.1 hga i (by simpa using hi)
    rw [ho] at h1
    simp only [hg, beq_iff_eq] at h1
    match i, hi with
    | 0, _ => cases h1
    | 1, _ => cases h1
    | 2, _ => cases h1
    | 3, _ => cases h1
    | 4, _ => cases h1
    | 5, _ => obtain ⟨rfl, rfl⟩ := Prod.mk.inj (Option.some.inj h1); rfl
    | 6, _ => obtain ⟨rfl, rfl⟩ := Prod.mk.inj (Option.some.inj h1); rfl
    | 7, _ => obtain ⟨rfl, rfl⟩ := Prod.mk.inj (Option.some.inj h1); rfl
    | 8, _ => cases h1
    | 9, _ => cases h1
    | 10, _ => obtain ⟨rfl, rfl⟩ := Prod.mk.inj (Option.some.inj h1); rfl
    | 11, _ => obtain ⟨rfl, rfl⟩ := Prod.mk.inj (Option.some.inj h1); rfl
    | 12, _ => obtain ⟨rfl, rfl⟩ := Prod.mk.inj (Option.some.inj h1); rfl
    | 13, _ => obtain ⟨rfl, rfl⟩ := Prod.mk.inj (Option.some.inj h1); rfl
    | 14, _ => cases h1
    | 15, _ => cases h1
    | 16, _ => obtain ⟨rfl, rfl⟩ := Prod.mk.inj (Option.some.inj h1); rfl
    | 17, _ => obtain ⟨rfl, rfl⟩ := Prod.mk.inj (Option.some.inj h1); rfl
    | 18, _ => obtain ⟨rfl, rfl⟩ := Prod.mk.inj (Option.some.inj h1); rfl
    | 19, _ => obtain ⟨rfl, rfl⟩ := Prod.mk.inj (Option.some.inj h1); rfl
    | 20, _ => cases h1
    | 21, _ => cases h1
    | 22, _ => obtain ⟨rfl, rfl⟩ := Prod.mk.inj (Option.some.inj h1); rfl
    | 23, _ => obtain ⟨rfl, rfl⟩ := Prod.mk.inj (Option.some.inj h1); rfl
    | 24, _ => obtain ⟨rfl, rfl⟩ := Prod.mk.inj (Option.some.inj h1); rfl
    | 25, _ => cases h1
    | 26, _ => cases h1
    | 27, _ => obtain ⟨rfl, rfl⟩ := Prod.mk.inj (Option.some.inj h1); rfl
    | 28, _ => obtain ⟨rfl, rfl⟩ := Prod.mk.inj (Option.some.inj h1); rfl
    | 29, _ => obtain ⟨rfl, rfl⟩ := Prod.mk.inj (Option.some.inj h1); rfl
    | 30, _ => cases h1
    | 31, _ => cases h1
    | 32, _ => obtain ⟨rfl, rfl⟩ := Prod.mk.inj (Option.some.inj h1); rfl
    | 33, _ => obtain ⟨rfl, rfl⟩ := Prod.mk.inj (Option.some.inj h1); rfl
    | 34, _ => obtain ⟨rfl, rfl⟩ := Prod.mk.inj (Option.some.inj h1); rfl
    | 35, _ => cases h1
    | 36, _ => cases h1
    | 37, _ => obtain ⟨rfl, rfl⟩ := Prod.mk.inj (Option.some.inj h1); rfl
    | 38, _ => obtain ⟨rfl, rfl⟩ := Prod.mk.inj (Option.some.inj h1); rfl
    | 39, _ => obtain ⟨rfl, rfl⟩ := Prod.mk.inj (Option.some.inj h1); rfl
    | 40, _ => cases h1
    | 41, _ => cases h1
    | 42, _ => obtain ⟨rfl, rfl⟩ := Prod.mk.inj (Option.some.inj h1); rfl
    | 43, _ => obtain ⟨rfl, rfl⟩ := Prod.mk.inj (Option.some.inj h1); rfl
    | 44, _ => obtain ⟨rfl, rfl⟩ := Prod.mk.inj (Option.some.inj h1); rfl
    | 45, _ => cases h1
    | i + 46, h => exact absurd (show i + 46 < 46 from h) (by omega)
  · intro i o ho hi hon a w hT hU hb K hK
    have hT0 : ∀ t v, t ∉ regR3_7_ds → T0[t]? = some v → a.tmps[t]?.getD undef = v := fun t v ht hv => by rw [hT t ht, hv]; rfl
    match i, hi with
    | 0, _ => exact v_field0 4 (opAtW ho (by kernel_rfl)) (hT0 4 _ (by decide) h4) (hK _ (Below.refl _ _))
    | 1, _ => exact v_loadB 32 (opAtW ho (by kernel_rfl)) (hU 0 (by kernel_rfl) rfl) (cell_of_row w g 0 _ _ _ (hg w hb)) (hK _ (Below.refl _ _))
    | 2, _ => exact v_nameR 33 (opAtW ho (by kernel_rfl)) (hU 1 (by kernel_rfl) rfl) (H1 w hb) (fun w' hb' => hK w' hb')
    | 3, _ => exact v_eqlsc 34 (opAtW ho (by kernel_rfl)) (hU 2 (by kernel_rfl) rfl) (c1) (hK _ (Below.refl _ _))
    | 4, _ => exact v_moveS 35 (opAtW ho (by kernel_rfl)) (hU 3 (by kernel_rfl) rfl) (hK _ (Below.refl _ _))
    | 5, _ => exact v_field1 4 (opAtW ho (by kernel_rfl)) (hT0 4 _ (by decide) h4) (hK _ (Below.refl _ _))
    | 6, _ => exact s_loadI 37 (opAtW ho (by kernel_rfl)) (hU 5 (by kernel_rfl) rfl) (cell_of_row w g 1 _ _ _ (hg w hb)) (hK _ (Below.refl _ _))
    | 7, _ => exact v_lssc 38 (opAtW ho (by kernel_rfl)) (hU 6 (by kernel_rfl) rfl) (c2) (hK _ (Below.refl _ _))
    | 8, _ => exact v_orF 36 39 (opAtW ho (by kernel_rfl)) (hU 4 (by kernel_rfl) rfl) (hU 7 (by kernel_rfl) rfl) (hK _ (Below.refl _ _))
    | 9, _ => exact v_moveS 40 (opAtW ho (by kernel_rfl)) (hU 8 (by kernel_rfl) rfl) (hK _ (Below.refl _ _))
    | 10, _ => exact v_field1 4 (opAtW ho (by kernel_rfl)) (hT0 4 _ (by decide) h4) (hK _ (Below.refl _ _))
    | 11, _ => exact s_loadI 42 (opAtW ho (by kernel_rfl)) (hU 10 (by kernel_rfl) rfl) (cell_of_row w g 1 _ _ _ (hg w hb)) (hK _ (Below.refl _ _))
    | 12, _ => exact v_moveS 1 (opAtW ho (by kernel_rfl)) (hT0 1 _ (by decide) h1) (hK _ (Below.refl _ _))
    | 13, _ => exact v_geq 43 44 (opAtW ho (by kernel_rfl)) (hU 11 (by kernel_rfl) rfl) (hU 12 (by kernel_rfl) rfl) (c3) (hK _ (Below.refl _ _))
    | 14, _ => exact v_orF 41 45 (opAtW ho (by kernel_rfl)) (hU 9 (by kernel_rfl) rfl) (hU 13 (by kernel_rfl) rfl) (hK _ (Below.refl _ _))
    | 15, _ => exact v_moveS 46 (opAtW ho (by kernel_rfl)) (hU 14 (by kernel_rfl) rfl) (hK _ (Below.refl _ _))
    | 16, _ => exact v_loadE 4 (opAtW ho (by kernel_rfl)) (hT0 4 _ (by decide) h4) (hg w hb) rfl (hK _ (Below.refl _ _))
    | 17, _ => exact v_bare 48 (opAtW ho (by kernel_rfl)) (hU 16 (by kernel_rfl) rfl) (H2 w hb) (fun w' hb' => hK w' hb')
    | 18, _ => exact v_loadE 4 (opAtW ho (by kernel_rfl)) (hT0 4 _ (by decide) h4) (hg w hb) rfl (hK _ (Below.refl _ _))
    | 19, _ => exact v_neqE 49 50 (opAtW ho (by kernel_rfl)) (hU 17 (by kernel_rfl) rfl) (hU 18 (by kernel_rfl) rfl) (c4) (hK _ (Below.refl _ _))
    | 20, _ => exact v_orF 47 51 (opAtW ho (by kernel_rfl)) (hU 15 (by kernel_rfl) rfl) (hU 19 (by kernel_rfl) rfl) (hK _ (Below.refl _ _))
    | 21, _ => exact v_moveS 52 (opAtW ho (by kernel_rfl)) (hU 20 (by kernel_rfl) rfl) (hK _ (Below.refl _ _))
    | 22, _ => exact v_field2 4 (opAtW ho (by kernel_rfl)) (hT0 4 _ (by decide) h4) (hK _ (Below.refl _ _))
    | 23, _ => exact s_loadI 54 (opAtW ho (by kernel_rfl)) (hU 22 (by kernel_rfl) rfl) (cell_of_row w g 2 _ _ _ (hg w hb)) (hK _ (Below.refl _ _))
    | 24, _ => exact v_lssc 55 (opAtW ho (by kernel_rfl)) (hU 23 (by kernel_rfl) rfl) (c5) (hK _ (Below.refl _ _))
    | 25, _ => exact v_orF 53 56 (opAtW ho (by kernel_rfl)) (hU 21 (by kernel_rfl) rfl) (hU 24 (by kernel_rfl) rfl) (hK _ (Below.refl _ _))
    | 26, _ => exact v_moveS 57 (opAtW ho (by kernel_rfl)) (hU 25 (by kernel_rfl) rfl) (hK _ (Below.refl _ _))
    | 27, _ => exact v_field2 4 (opAtW ho (by kernel_rfl)) (hT0 4 _ (by decide) h4) (hK _ (Below.refl _ _))
    | 28, _ => exact s_loadI 59 (opAtW ho (by kernel_rfl)) (hU 27 (by kernel_rfl) rfl) (cell_of_row w g 2 _ _ _ (hg w hb)) (hK _ (Below.refl _ _))
    | 29, _ => exact v_geqc 60 (opAtW ho (by kernel_rfl)) (hU 28 (by kernel_rfl) rfl) (c6) (hK _ (Below.refl _ _))
    | 30, _ => exact v_orF 58 61 (opAtW ho (by kernel_rfl)) (hU 26 (by kernel_rfl) rfl) (hU 29 (by kernel_rfl) rfl) (hK _ (Below.refl _ _))
    | 31, _ => exact v_moveS 62 (opAtW ho (by kernel_rfl)) (hU 30 (by kernel_rfl) rfl) (hK _ (Below.refl _ _))
    | 32, _ => exact v_field4 4 (opAtW ho (by kernel_rfl)) (hT0 4 _ (by decide) h4) (hK _ (Below.refl _ _))
    | 33, _ => exact s_loadI 64 (opAtW ho (by kernel_rfl)) (hU 32 (by kernel_rfl) rfl) (cell_of_row w g 4 _ _ _ (hg w hb)) (hK _ (Below.refl _ _))
    | 34, _ => exact v_lssc 65 (opAtW ho (by kernel_rfl)) (hU 33 (by kernel_rfl) rfl) (c7) (hK _ (Below.refl _ _))
    | 35, _ => exact v_orF 63 66 (opAtW ho (by kernel_rfl)) (hU 31 (by kernel_rfl) rfl) (hU 34 (by kernel_rfl) rfl) (hK _ (Below.refl _ _))
    | 36, _ => exact v_moveS 67 (opAtW ho (by kernel_rfl)) (hU 35 (by kernel_rfl) rfl) (hK _ (Below.refl _ _))
    | 37, _ => exact absurd hon (by decide)
    | 38, _ => exact absurd hon (by decide)
    | 39, _ => exact absurd hon (by decide)
    | 40, _ => exact v_orT 68 71 (opAtW ho (by kernel_rfl)) (hU 36 (by kernel_rfl) rfl) (hK _ (Below.refl _ _))
    | 41, _ => exact v_moveS 72 (opAtW ho (by kernel_rfl)) (hU 40 (by kernel_rfl) rfl) (hK _ (Below.refl _ _))
    | 42, _ => exact absurd hon (by decide)
    | 43, _ => exact absurd hon (by decide)
    | 44, _ => exact absurd hon (by decide)
    | 45, _ => exact v_orT 73 76 (opAtW ho (by kernel_rfl)) (hU 41 (by kernel_rfl) rfl) (hK _ (Below.refl _ _))
    | i + 46, h => exact absurd (show i + 46 < 46 from h) (by omega)
  · intro us w hu hb hv
    exact hend us w hu hb (hv 45 (by decide) rfl)
noncomputable def regR3_8_ops : Array Oper := opsW Tryd.f48 3
def regR3_8_ds : List Nat := [32, 33, 34, 35, 36, 37, 38, 39, 40, 41, 42, 43, 44, 45, 46, 47, 48, 49, 50, 51, 52, 53, 54, 55, 56, 57, 58, 59, 60, 61, 62, 63, 64, 65, 66, 67, 68, 69, 70, 71, 72, 73, 74, 75, 76, 77]
set_option maxRecDepth 100000 in
set_option maxHeartbeats 4000000 in
theorem regR3_8 {id : Nat} {ops : Array Oper} (hops : ops = regR3_8_ops) (T0 : Array Value) (hsz : 78 ≤ T0.size) (W : World) (g : Nat) (kn : Nat) (kd th tx pl v x why T b0 b1 b2 b3 b4 b5 b6 : Int) (hk : kd = kn) (hg : ∀ wx, Below W.heap.size W wx → wx.heap[g]? = some (.cells #[.int .u8 kd, .int .i64 th, .int .i64 tx, .int .i64 pl, .int .i64 v, .int .i64 x, .int .u8 why] 46 (0, 0))) (H1 : ∀ wx, Below W.heap.size W wx → Calls Tryd.prog 85 #[.int .u8 kd] wx fun r w' => r = .returned (.string (bsW (nmL kn))) ∧ Below wx.heap.size wx w') (H2 : ∀ wx, Below W.heap.size W wx → Calls Tryd.prog 86 #[.agg #[.int .u8 kd, .int .i64 th, .int .i64 tx, .int .i64 pl, .int .i64 v, .int .i64 x, .int .u8 why]] wx fun r w' => r = .returned (.agg #[.int .u8 b0, .int .i64 b1, .int .i64 b2, .int .i64 b3, .int .i64 b4, .int .i64 b5, .int .u8 b6]) ∧ Below wx.heap.size wx w') (c1 : (bsW (nmL kn)).toList.isEmpty = false) (c2 : decide (th < 0) = false) (c3 : decide (T ≤ th) = false) (c4 : (!(b0 == kd && (b1 == th && (b2 == tx && (b3 == pl && (b4 == v && (b5 == x && b6 == why))))))) = false) (c5 : decide (tx < 0) = false) (c6 : decide (6 ≤ tx) = false) (c7 : decide (v < 0) = false) (c8 : decide (1099511627776 < v) = true) (h1 : T0[1]? = some (.int .i64 T)) (h4 : T0[4]? = some (.pointer (some ⟨g, 0, none⟩))) {Q : Exit → Act → World → Prop}
    (hend : ∀ (us : List Value) (w : World), us.length = 46 → Below W.heap.size W w → us.getD 45 undef = .bool true → Q .normal ⟨putAll T0 regR3_8_ds us, []⟩ w) : (Code.region id ops true).wp Tryd.prog Q ⟨T0, []⟩ W := by
  subst hops
  have hos : regR3_8_ops.size = 46 := by kernel_rfl
  have hga : (List.range 46).all (fun i => match regR3_8_ops[i]? with | some o => o.guard == ([none, none, none, none, none, some (4, false), some (4, false), some (4, false), none, none, some (9, false), some (9, false), some (9, false), some (9, false), none, none, some (15, false), some (15, false), some (15, false), some (15, false), none, none, some (21, false), some (21, false), some (21, false), none, none, some (26, false), some (26, false), some (26, false), none, none, some (31, false), some (31, false), some (31, false), none, none, some (36, false), some (36, false), some (36, false), none, none, some (41, false), some (41, false), some (41, false), none] : List (Option (Nat × Bool))).getD i none | none => false) = true := by kernel_rfl
  refine wp_region_vals3 ([.pointer (some ⟨g, 0, none⟩), .int .u8 kd, .string (bsW (nmL kn)), .bool false, .bool false, .pointer (some ⟨g, 1, none⟩), .int .i64 th, .bool false, .bool false, .bool false, .pointer (some ⟨g, 1, none⟩), .int .i64 th, .int .i64 T, .bool false, .bool false, .bool false, .agg #[.int .u8 kd, .int .i64 th, .int .i64 tx, .int .i64 pl, .int .i64 v, .int .i64 x, .int .u8 why], .agg #[.int .u8 b0, .int .i64 b1, .int .i64 b2, .int .i64 b3, .int .i64 b4, .int .i64 b5, .int .u8 b6], .agg #[.int .u8 kd, .int .i64 th, .int .i64 tx, .int .i64 pl, .int .i64 v, .int .i64 x, .int .u8 why], .bool false, .bool false, .bool false, .pointer (some ⟨g, 2, none⟩), .int .i64 tx, .bool false, .bool false, .bool false, .pointer (some ⟨g, 2, none⟩), .int .i64 tx, .bool false, .bool false, .bool false, .pointer (some ⟨g, 4, none⟩), .int .i64 v, .bool false, .bool false, .bool false, .pointer (some ⟨g, 4, none⟩), .int .i64 v, .bool true, .bool true, .bool true, undef, undef, undef, .bool true] : List Value) [true, true, true, true, true, true, true, true, true, true, true, true, true, true, true, true, true, true, true, true, true, true, true, true, true, true, true, true, true, true, true, true, true, true, true, true, true, true, true, true, true, true, false, false, false, true] regR3_8_ds W T0 (by decide) (fun x hx => ?_) (by kernel_rfl) (by kernel_rfl) (fun i o j want ho hg => ?_) ?_ ?_
  · have hall : (regR3_8_ds.all fun d => decide (d < 78)) = true := by decide
    have := List.all_eq_true.1 hall x hx
    simp only [decide_eq_true_eq] at this
    omega
  · have hi : i < 46 := by rw [← hos]; exact (Array.getElem?_eq_some_iff.1 ho).1
    have h1 := List.all_eq_true.1 hga i (by simpa using hi)
    rw [ho] at h1
    simp only [hg, beq_iff_eq] at h1
    match i, hi with
    | 0, _ => cases h1
    | 1, _ => cases h1
    | 2, _ => cases h1
    | 3, _ => cases h1
    | 4, _ => cases h1
    | 5, _ => obtain ⟨rfl, rfl⟩ := Prod.mk.inj (Option.some.inj h1); rfl
    | 6, _ => obtain ⟨rfl, rfl⟩ := Prod.mk.inj (Option.some.inj h1); rfl
    | 7, _ => obtain ⟨rfl, rfl⟩ := Prod.mk.inj (Option.some.inj h1); rfl
    | 8, _ => cases h1
    | 9, _ => cases h1
    | 10, _ => obtain ⟨rfl, rfl⟩ := Prod.mk.inj (Option.some.inj h1); rfl
    | 11, _ => obtain ⟨rfl, rfl⟩ := Prod.mk.inj (Option.some.inj h1); rfl
    | 12, _ => obtain ⟨rfl, rfl⟩ := Prod.mk.inj (Option.some.inj h1); rfl
    | 13, _ => obtain ⟨rfl, rfl⟩ := Prod.mk.inj (Option.some.inj h1); rfl
    | 14, _ => cases h1
    | 15, _ => cases h1
    | 16, _ => obtain ⟨rfl, rfl⟩ := Prod.mk.inj (Option.some.inj h1); rfl
    | 17, _ => obtain ⟨rfl, rfl⟩ := Prod.mk.inj (Option.some.inj h1); rfl
    | 18, _ => obtain ⟨rfl, rfl⟩ := Prod.mk.inj (Option.some.inj h1); rfl
    | 19, _ => obtain ⟨rfl, rfl⟩ := Prod.mk.inj (Option.some.inj h1); rfl
    | 20, _ => cases h1
    | 21, _ => cases h1
    | 22, _ => obtain ⟨rfl, rfl⟩ := Prod.mk.inj (Option.some.inj h1); rfl
    | 23, _ => obtain ⟨rfl, rfl⟩ := Prod.mk.inj (Option.some.inj h1); rfl
    | 24, _ => obtain ⟨rfl, rfl⟩ := Prod.mk.inj (Option.some.inj h1); rfl
    | 25, _ => cases h1
    | 26, _ => cases h1
    | 27, _ => obtain ⟨rfl, rfl⟩ := Prod.mk.inj (Option.some.inj h1); rfl
    | 28, _ => obtain ⟨rfl, rfl⟩ := Prod.mk.inj (Option.some.inj h1); rfl
    | 29, _ => obtain ⟨rfl, rfl⟩ := Prod.mk.inj (Option.some.inj h1); rfl
    | 30, _ => cases h1
    | 31, _ => cases h1
    | 32, _ => obtain ⟨rfl, rfl⟩ := Prod.mk.inj (Option.some.inj h1); rfl
    | 33, _ => obtain ⟨rfl, rfl⟩ := Prod.mk.inj (Option.some.inj h1); rfl
    | 34, _ => obtain ⟨rfl, rfl⟩ := Prod.mk.inj (Option.some.inj h1); rfl
    | 35, _ => cases h1
    | 36, _ => cases h1
    | 37, _ => obtain ⟨rfl, rfl⟩ := Prod.mk.inj (Option.some.inj h1); rfl
    | 38, _ => obtain ⟨rfl, rfl⟩ := Prod.mk.inj (Option.some.inj h1); rfl
    | 39, _ => obtain ⟨rfl, rfl⟩ := Prod.mk.inj (Option.some.inj h1); rfl
    | 40, _ => cases h1
    | 41, _ => cases h1
    | 42, _ => obtain ⟨rfl, rfl⟩ := Prod.mk.inj (Option.some.inj h1); rfl
    | 43, _ => obtain ⟨rfl, rfl⟩ := Prod.mk.inj (Option.some.inj h1); rfl
    | 44, _ => obtain ⟨rfl, rfl⟩ := Prod.mk.inj (Option.some.inj h1); rfl
    | 45, _ => cases h1
    | i + 46, h => exact absurd (show i + 46 < 46 from h) (by omega)
  · intro i o ho hi hon a w hT hU hb K hK
    have hT0 : ∀ t v, t ∉ regR3_8_ds → T0[t]? = some v → a.tmps[t]?.getD undef = v := fun t v ht hv => by rw [hT t ht, hv]; rfl
    match i, hi with
    | 0, _ => exact v_field0 4 (opAtW ho (by kernel_rfl)) (hT0 4 _ (by decide) h4) (hK _ (Below.refl _ _))
    | 1, _ => exact v_loadB 32 (opAtW ho (by kernel_rfl)) (hU 0 (by kernel_rfl) rfl) (cell_of_row w g 0 _ _ _ (hg w hb)) (hK _ (Below.refl _ _))
    | 2, _ => exact v_nameR 33 (opAtW ho (by kernel_rfl)) (hU 1 (by kernel_rfl) rfl) (H1 w hb) (fun w' hb' => hK w' hb')
    | 3, _ => exact v_eqlsc 34 (opAtW ho (by kernel_rfl)) (hU 2 (by kernel_rfl) rfl) (c1) (hK _ (Below.refl _ _))
    | 4, _ => exact v_moveS 35 (opAtW ho (by kernel_rfl)) (hU 3 (by kernel_rfl) rfl) (hK _ (Below.refl _ _))
    | 5, _ => exact v_field1 4 (opAtW ho (by kernel_rfl)) (hT0 4 _ (by decide) h4) (hK _ (Below.refl _ _))
    | 6, _ => exact s_loadI 37 (opAtW ho (by kernel_rfl)) (hU 5 (by kernel_rfl) rfl) (cell_of_row w g 1 _ _ _ (hg w hb)) (hK _ (Below.refl _ _))
    | 7, _ => exact v_lssc 38 (opAtW ho (by kernel_rfl)) (hU 6 (by kernel_rfl) rfl) (c2) (hK _ (Below.refl _ _))
    | 8, _ => exact v_orF 36 39 (opAtW ho (by kernel_rfl)) (hU 4 (by kernel_rfl) rfl) (hU 7 (by kernel_rfl) rfl) (hK _ (Below.refl _ _))
    | 9, _ => exact v_moveS 40 (opAtW ho (by kernel_rfl)) (hU 8 (by kernel_rfl) rfl) (hK _ (Below.refl _ _))
    | 10, _ => exact v_field1 4 (opAtW ho (by kernel_rfl)) (hT0 4 _ (by decide) h4) (hK _ (Below.refl _ _))
    | 11, _ => exact s_loadI 42 (opAtW ho (by kernel_rfl)) (hU 10 (by kernel_rfl) rfl) (cell_of_row w g 1 _ _ _ (hg w hb)) (hK _ (Below.refl _ _))
    | 12, _ => exact v_moveS 1 (opAtW ho (by kernel_rfl)) (hT0 1 _ (by decide) h1) (hK _ (Below.refl _ _))
    | 13, _ => exact v_geq 43 44 (opAtW ho (by kernel_rfl)) (hU 11 (by kernel_rfl) rfl) (hU 12 (by kernel_rfl) rfl) (c3) (hK _ (Below.refl _ _))
    | 14, _ => exact v_orF 41 45 (opAtW ho (by kernel_rfl)) (hU 9 (by kernel_rfl) rfl) (hU 13 (by kernel_rfl) rfl) (hK _ (Below.refl _ _))
    | 15, _ => exact v_moveS 46 (opAtW ho (by kernel_rfl)) (hU 14 (by kernel_rfl) rfl) (hK _ (Below.refl _ _))
    | 16, _ => exact v_loadE 4 (opAtW ho (by kernel_rfl)) (hT0 4 _ (by decide) h4) (hg w hb) rfl (hK _ (Below.refl _ _))
    | 17, _ => exact v_bare 48 (opAtW ho (by kernel_rfl)) (hU 16 (by kernel_rfl) rfl) (H2 w hb) (fun w' hb' => hK w' hb')
    | 18, _ => exact v_loadE 4 (opAtW ho (by kernel_rfl)) (hT0 4 _ (by decide) h4) (hg w hb) rfl (hK _ (Below.refl _ _))
    | 19, _ => exact v_neqE 49 50 (opAtW ho (by kernel_rfl)) (hU 17 (by kernel_rfl) rfl) (hU 18 (by kernel_rfl) rfl) (c4) (hK _ (Below.refl _ _))
    | 20, _ => exact v_orF 47 51 (opAtW ho (by kernel_rfl)) (hU 15 (by kernel_rfl) rfl) (hU 19 (by kernel_rfl) rfl) (hK _ (Below.refl _ _))
    | 21, _ => exact v_moveS 52 (opAtW ho (by kernel_rfl)) (hU 20 (by kernel_rfl) rfl) (hK _ (Below.refl _ _))
    | 22, _ => exact v_field2 4 (opAtW ho (by kernel_rfl)) (hT0 4 _ (by decide) h4) (hK _ (Below.refl _ _))
    | 23, _ => exact s_loadI 54 (opAtW ho (by kernel_rfl)) (hU 22 (by kernel_rfl) rfl) (cell_of_row w g 2 _ _ _ (hg w hb)) (hK _ (Below.refl _ _))
    | 24, _ => exact v_lssc 55 (opAtW ho (by kernel_rfl)) (hU 23 (by kernel_rfl) rfl) (c5) (hK _ (Below.refl _ _))
    | 25, _ => exact v_orF 53 56 (opAtW ho (by kernel_rfl)) (hU 21 (by kernel_rfl) rfl) (hU 24 (by kernel_rfl) rfl) (hK _ (Below.refl _ _))
    | 26, _ => exact v_moveS 57 (opAtW ho (by kernel_rfl)) (hU 25 (by kernel_rfl) rfl) (hK _ (Below.refl _ _))
    | 27, _ => exact v_field2 4 (opAtW ho (by kernel_rfl)) (hT0 4 _ (by decide) h4) (hK _ (Below.refl _ _))
    | 28, _ => exact s_loadI 59 (opAtW ho (by kernel_rfl)) (hU 27 (by kernel_rfl) rfl) (cell_of_row w g 2 _ _ _ (hg w hb)) (hK _ (Below.refl _ _))
    | 29, _ => exact v_geqc 60 (opAtW ho (by kernel_rfl)) (hU 28 (by kernel_rfl) rfl) (c6) (hK _ (Below.refl _ _))
    | 30, _ => exact v_orF 58 61 (opAtW ho (by kernel_rfl)) (hU 26 (by kernel_rfl) rfl) (hU 29 (by kernel_rfl) rfl) (hK _ (Below.refl _ _))
    | 31, _ => exact v_moveS 62 (opAtW ho (by kernel_rfl)) (hU 30 (by kernel_rfl) rfl) (hK _ (Below.refl _ _))
    | 32, _ => exact v_field4 4 (opAtW ho (by kernel_rfl)) (hT0 4 _ (by decide) h4) (hK _ (Below.refl _ _))
    | 33, _ => exact s_loadI 64 (opAtW ho (by kernel_rfl)) (hU 32 (by kernel_rfl) rfl) (cell_of_row w g 4 _ _ _ (hg w hb)) (hK _ (Below.refl _ _))
    | 34, _ => exact v_lssc 65 (opAtW ho (by kernel_rfl)) (hU 33 (by kernel_rfl) rfl) (c7) (hK _ (Below.refl _ _))
    | 35, _ => exact v_orF 63 66 (opAtW ho (by kernel_rfl)) (hU 31 (by kernel_rfl) rfl) (hU 34 (by kernel_rfl) rfl) (hK _ (Below.refl _ _))
    | 36, _ => exact v_moveS 67 (opAtW ho (by kernel_rfl)) (hU 35 (by kernel_rfl) rfl) (hK _ (Below.refl _ _))
    | 37, _ => exact v_field4 4 (opAtW ho (by kernel_rfl)) (hT0 4 _ (by decide) h4) (hK _ (Below.refl _ _))
    | 38, _ => exact s_loadI 69 (opAtW ho (by kernel_rfl)) (hU 37 (by kernel_rfl) rfl) (cell_of_row w g 4 _ _ _ (hg w hb)) (hK _ (Below.refl _ _))
    | 39, _ => exact v_gtrc 70 (opAtW ho (by kernel_rfl)) (hU 38 (by kernel_rfl) rfl) (c8) (hK _ (Below.refl _ _))
    | 40, _ => exact v_orF 68 71 (opAtW ho (by kernel_rfl)) (hU 36 (by kernel_rfl) rfl) (hU 39 (by kernel_rfl) rfl) (hK _ (Below.refl _ _))
    | 41, _ => exact v_moveS 72 (opAtW ho (by kernel_rfl)) (hU 40 (by kernel_rfl) rfl) (hK _ (Below.refl _ _))
    | 42, _ => exact absurd hon (by decide)
    | 43, _ => exact absurd hon (by decide)
    | 44, _ => exact absurd hon (by decide)
    | 45, _ => exact v_orT 73 76 (opAtW ho (by kernel_rfl)) (hU 41 (by kernel_rfl) rfl) (hK _ (Below.refl _ _))
    | i + 46, h => exact absurd (show i + 46 < 46 from h) (by omega)
  · intro us w hu hb hv
    exact hend us w hu hb (hv 45 (by decide) rfl)
noncomputable def regR3_9_ops : Array Oper := opsW Tryd.f48 3
def regR3_9_ds : List Nat := [32, 33, 34, 35, 36, 37, 38, 39, 40, 41, 42, 43, 44, 45, 46, 47, 48, 49, 50, 51, 52, 53, 54, 55, 56, 57, 58, 59, 60, 61, 62, 63, 64, 65, 66, 67, 68, 69, 70, 71, 72, 73, 74, 75, 76, 77]
set_option maxRecDepth 100000 in
set_option maxHeartbeats 4000000 in
theorem regR3_9 {id : Nat} {ops : Array Oper} (hops : ops = regR3_9_ops) (T0 : Array Value) (hsz : 78 ≤ T0.size) (W : World) (g : Nat) (kn : Nat) (kd th tx pl v x why T b0 b1 b2 b3 b4 b5 b6 : Int) (hk : kd = kn) (hg : ∀ wx, Below W.heap.size W wx → wx.heap[g]? = some (.cells #[.int .u8 kd, .int .i64 th, .int .i64 tx, .int .i64 pl, .int .i64 v, .int .i64 x, .int .u8 why] 46 (0, 0))) (H1 : ∀ wx, Below W.heap.size W wx → Calls Tryd.prog 85 #[.int .u8 kd] wx fun r w' => r = .returned (.string (bsW (nmL kn))) ∧ Below wx.heap.size wx w') (H2 : ∀ wx, Below W.heap.size W wx → Calls Tryd.prog 86 #[.agg #[.int .u8 kd, .int .i64 th, .int .i64 tx, .int .i64 pl, .int .i64 v, .int .i64 x, .int .u8 why]] wx fun r w' => r = .returned (.agg #[.int .u8 b0, .int .i64 b1, .int .i64 b2, .int .i64 b3, .int .i64 b4, .int .i64 b5, .int .u8 b6]) ∧ Below wx.heap.size wx w') (c1 : (bsW (nmL kn)).toList.isEmpty = false) (c2 : decide (th < 0) = false) (c3 : decide (T ≤ th) = false) (c4 : (!(b0 == kd && (b1 == th && (b2 == tx && (b3 == pl && (b4 == v && (b5 == x && b6 == why))))))) = false) (c5 : decide (tx < 0) = false) (c6 : decide (6 ≤ tx) = false) (c7 : decide (v < 0) = false) (c8 : decide (1099511627776 < v) = false) (c9 : decide (pl < 0) = true) (h1 : T0[1]? = some (.int .i64 T)) (h4 : T0[4]? = some (.pointer (some ⟨g, 0, none⟩))) {Q : Exit → Act → World → Prop}
    (hend : ∀ (us : List Value) (w : World), us.length = 46 → Below W.heap.size W w → us.getD 45 undef = .bool true → Q .normal ⟨putAll T0 regR3_9_ds us, []⟩ w) : (Code.region id ops true).wp Tryd.prog Q ⟨T0, []⟩ W := by
  subst hops
  have hos : regR3_9_ops.size = 46 := by kernel_rfl
  have hga : (List.range 46).all (fun i => match regR3_9_ops[i]? with | some o => o.guard == ([none, none, none, none, none, some (4, false), some (4, false), some (4, false), none, none, some (9, false), some (9, false), some (9, false), some (9, false), none, none, some (15, false), some (15, false), some (15, false), some (15, false), none, none, some (21, false), some (21, false), some (21, false), none, none, some (26, false), some (26, false), some (26, false), none, none, some (31, false), some (31, false), some (31, false), none, none, some (36, false), some (36, false), some (36, false), none, none, some (41, false), some (41, false), some (41, false), none] : List (Option (Nat × Bool))).getD i none | none => false) = true := by kernel_rfl
  refine wp_region_vals3 ([.pointer (some ⟨g, 0, none⟩), .int .u8 kd, .string (bsW (nmL kn)), .bool false, .bool false, .pointer (some ⟨g, 1, none⟩), .int .i64 th, .bool false, .bool false, .bool false, .pointer (some ⟨g, 1, none⟩), .int .i64 th, .int .i64 T, .bool false, .bool false, .bool false, .agg #[.int .u8 kd, .int .i64 th, .int .i64 tx, .int .i64 pl, .int .i64 v, .int .i64 x, .int .u8 why], .agg #[.int .u8 b0, .int .i64 b1, .int .i64 b2, .int .i64 b3, .int .i64 b4, .int .i64 b5, .int .u8 b6], .agg #[.int .u8 kd, .int .i64 th, .int .i64 tx, .int .i64 pl, .int .i64 v, .int .i64 x, .int .u8 why], .bool false, .bool false, .bool false, .pointer (some ⟨g, 2, none⟩), .int .i64 tx, .bool false, .bool false, .bool false, .pointer (some ⟨g, 2, none⟩), .int .i64 tx, .bool false, .bool false, .bool false, .pointer (some ⟨g, 4, none⟩), .int .i64 v, .bool false, .bool false, .bool false, .pointer (some ⟨g, 4, none⟩), .int .i64 v, .bool false, .bool false, .bool false, .pointer (some ⟨g, 3, none⟩), .int .i64 pl, .bool true, .bool true] : List Value) [true, true, true, true, true, true, true, true, true, true, true, true, true, true, true, true, true, true, true, true, true, true, true, true, true, true, true, true, true, true, true, true, true, true, true, true, true, true, true, true, true, true, true, true, true, true] regR3_9_ds W T0 (by decide) (fun x hx => ?_) (by kernel_rfl) (by kernel_rfl) (fun i o j want ho hg => ?_) ?_ ?_
  · have hall : (regR3_9_ds.all fun d => decide (d < 78)) = true := by decide
    have := List.all_eq_true.1 hall x hx
    simp only [decide_eq_true_eq] at this
    omega
  · have hi : i < 46 := by rw [← hos]; exact (Array.getElem?_eq_some_iff.1 ho).1
    have h1 := List.all_eq_true.1 hga i (by simpa using hi)
    rw [ho] at h1
    simp only [hg, beq_iff_eq] at h1
    match i, hi with
    | 0, _ => cases h1
    | 1, _ => cases h1
    | 2, _ => cases h1
    | 3, _ => cases h1
    | 4, _ => cases h1
    | 5, _ => obtain ⟨rfl, rfl⟩ := Prod.mk.inj (Option.some.inj h1); rfl
    | 6, _ => obtain ⟨rfl, rfl⟩ := Prod.mk.inj (Option.some.inj h1); rfl
    | 7, _ => obtain ⟨rfl, rfl⟩ := Prod.mk.inj (Option.some.inj h1); rfl
    | 8, _ => cases h1
    | 9, _ => cases h1
    | 10, _ => obtain ⟨rfl, rfl⟩ := Prod.mk.inj (Option.some.inj h1); rfl
    | 11, _ => obtain ⟨rfl, rfl⟩ := Prod.mk.inj (Option.some.inj h1); rfl
    | 12, _ => obtain ⟨rfl, rfl⟩ := Prod.mk.inj (Option.some.inj h1); rfl
    | 13, _ => obtain ⟨rfl, rfl⟩ := Prod.mk.inj (Option.some.inj h1); rfl
    | 14, _ => cases h1
    | 15, _ => cases h1
    | 16, _ => obtain ⟨rfl, rfl⟩ := Prod.mk.inj (Option.some.inj h1); rfl
    | 17, _ => obtain ⟨rfl, rfl⟩ := Prod.mk.inj (Option.some.inj h1); rfl
    | 18, _ => obtain ⟨rfl, rfl⟩ := Prod.mk.inj (Option.some.inj h1); rfl
    | 19, _ => obtain ⟨rfl, rfl⟩ := Prod.mk.inj (Option.some.inj h1); rfl
    | 20, _ => cases h1
    | 21, _ => cases h1
    | 22, _ => obtain ⟨rfl, rfl⟩ := Prod.mk.inj (Option.some.inj h1); rfl
    | 23, _ => obtain ⟨rfl, rfl⟩ := Prod.mk.inj (Option.some.inj h1); rfl
    | 24, _ => obtain ⟨rfl, rfl⟩ := Prod.mk.inj (Option.some.inj h1); rfl
    | 25, _ => cases h1
    | 26, _ => cases h1
    | 27, _ => obtain ⟨rfl, rfl⟩ := Prod.mk.inj (Option.some.inj h1); rfl
    | 28, _ => obtain ⟨rfl, rfl⟩ := Prod.mk.inj (Option.some.inj h1); rfl
    | 29, _ => obtain ⟨rfl, rfl⟩ := Prod.mk.inj (Option.some.inj h1); rfl
    | 30, _ => cases h1
    | 31, _ => cases h1
    | 32, _ => obtain ⟨rfl, rfl⟩ := Prod.mk.inj (Option.some.inj h1); rfl
    | 33, _ => obtain ⟨rfl, rfl⟩ := Prod.mk.inj (Option.some.inj h1); rfl
    | 34, _ => obtain ⟨rfl, rfl⟩ := Prod.mk.inj (Option.some.inj h1); rfl
    | 35, _ => cases h1
    | 36, _ => cases h1
    | 37, _ => obtain ⟨rfl, rfl⟩ := Prod.mk.inj (Option.some.inj h1); rfl
    | 38, _ => obtain ⟨rfl, rfl⟩ := Prod.mk.inj (Option.some.inj h1); rfl
    | 39, _ => obtain ⟨rfl, rfl⟩ := Prod.mk.inj (Option.some.inj h1); rfl
    | 40, _ => cases h1
    | 41, _ => cases h1
    | 42, _ => obtain ⟨rfl, rfl⟩ := Prod.mk.inj (Option.some.inj h1); rfl
    | 43, _ => obtain ⟨rfl, rfl⟩ := Prod.mk.inj (Option.some.inj h1); rfl
    | 44, _ => obtain ⟨rfl, rfl⟩ := Prod.mk.inj (Option.some.inj h1); rfl
    | 45, _ => cases h1
    | i + 46, h => exact absurd (show i + 46 < 46 from h) (by omega)
  · intro i o ho hi hon a w hT hU hb K hK
    have hT0 : ∀ t v, t ∉ regR3_9_ds → T0[t]? = some v → a.tmps[t]?.getD undef = v := fun t v ht hv => by rw [hT t ht, hv]; rfl
    match i, hi with
    | 0, _ => exact v_field0 4 (opAtW ho (by kernel_rfl)) (hT0 4 _ (by decide) h4) (hK _ (Below.refl _ _))
    | 1, _ => exact v_loadB 32 (opAtW ho (by kernel_rfl)) (hU 0 (by kernel_rfl) rfl) (cell_of_row w g 0 _ _ _ (hg w hb)) (hK _ (Below.refl _ _))
    | 2, _ => exact v_nameR 33 (opAtW ho (by kernel_rfl)) (hU 1 (by kernel_rfl) rfl) (H1 w hb) (fun w' hb' => hK w' hb')
    | 3, _ => exact v_eqlsc 34 (opAtW ho (by kernel_rfl)) (hU 2 (by kernel_rfl) rfl) (c1) (hK _ (Below.refl _ _))
    | 4, _ => exact v_moveS 35 (opAtW ho (by kernel_rfl)) (hU 3 (by kernel_rfl) rfl) (hK _ (Below.refl _ _))
    | 5, _ => exact v_field1 4 (opAtW ho (by kernel_rfl)) (hT0 4 _ (by decide) h4) (hK _ (Below.refl _ _))
    | 6, _ => exact s_loadI 37 (opAtW ho (by kernel_rfl)) (hU 5 (by kernel_rfl) rfl) (cell_of_row w g 1 _ _ _ (hg w hb)) (hK _ (Below.refl _ _))
    | 7, _ => exact v_lssc 38 (opAtW ho (by kernel_rfl)) (hU 6 (by kernel_rfl) rfl) (c2) (hK _ (Below.refl _ _))
    | 8, _ => exact v_orF 36 39 (opAtW ho (by kernel_rfl)) (hU 4 (by kernel_rfl) rfl) (hU 7 (by kernel_rfl) rfl) (hK _ (Below.refl _ _))
    | 9, _ => exact v_moveS 40 (opAtW ho (by kernel_rfl)) (hU 8 (by kernel_rfl) rfl) (hK _ (Below.refl _ _))
    | 10, _ => exact v_field1 4 (opAtW ho (by kernel_rfl)) (hT0 4 _ (by decide) h4) (hK _ (Below.refl _ _))
    | 11, _ => exact s_loadI 42 (opAtW ho (by kernel_rfl)) (hU 10 (by kernel_rfl) rfl) (cell_of_row w g 1 _ _ _ (hg w hb)) (hK _ (Below.refl _ _))
    | 12, _ => exact v_moveS 1 (opAtW ho (by kernel_rfl)) (hT0 1 _ (by decide) h1) (hK _ (Below.refl _ _))
    | 13, _ => exact v_geq 43 44 (opAtW ho (by kernel_rfl)) (hU 11 (by kernel_rfl) rfl) (hU 12 (by kernel_rfl) rfl) (c3) (hK _ (Below.refl _ _))
    | 14, _ => exact v_orF 41 45 (opAtW ho (by kernel_rfl)) (hU 9 (by kernel_rfl) rfl) (hU 13 (by kernel_rfl) rfl) (hK _ (Below.refl _ _))
    | 15, _ => exact v_moveS 46 (opAtW ho (by kernel_rfl)) (hU 14 (by kernel_rfl) rfl) (hK _ (Below.refl _ _))
    | 16, _ => exact v_loadE 4 (opAtW ho (by kernel_rfl)) (hT0 4 _ (by decide) h4) (hg w hb) rfl (hK _ (Below.refl _ _))
    | 17, _ => exact v_bare 48 (opAtW ho (by kernel_rfl)) (hU 16 (by kernel_rfl) rfl) (H2 w hb) (fun w' hb' => hK w' hb')
    | 18, _ => exact v_loadE 4 (opAtW ho (by kernel_rfl)) (hT0 4 _ (by decide) h4) (hg w hb) rfl (hK _ (Below.refl _ _))
    | 19, _ => exact v_neqE 49 50 (opAtW ho (by kernel_rfl)) (hU 17 (by kernel_rfl) rfl) (hU 18 (by kernel_rfl) rfl) (c4) (hK _ (Below.refl _ _))
    | 20, _ => exact v_orF 47 51 (opAtW ho (by kernel_rfl)) (hU 15 (by kernel_rfl) rfl) (hU 19 (by kernel_rfl) rfl) (hK _ (Below.refl _ _))
    | 21, _ => exact v_moveS 52 (opAtW ho (by kernel_rfl)) (hU 20 (by kernel_rfl) rfl) (hK _ (Below.refl _ _))
    | 22, _ => exact v_field2 4 (opAtW ho (by kernel_rfl)) (hT0 4 _ (by decide) h4) (hK _ (Below.refl _ _))
    | 23, _ => exact s_loadI 54 (opAtW ho (by kernel_rfl)) (hU 22 (by kernel_rfl) rfl) (cell_of_row w g 2 _ _ _ (hg w hb)) (hK _ (Below.refl _ _))
    | 24, _ => exact v_lssc 55 (opAtW ho (by kernel_rfl)) (hU 23 (by kernel_rfl) rfl) (c5) (hK _ (Below.refl _ _))
    | 25, _ => exact v_orF 53 56 (opAtW ho (by kernel_rfl)) (hU 21 (by kernel_rfl) rfl) (hU 24 (by kernel_rfl) rfl) (hK _ (Below.refl _ _))
    | 26, _ => exact v_moveS 57 (opAtW ho (by kernel_rfl)) (hU 25 (by kernel_rfl) rfl) (hK _ (Below.refl _ _))
    | 27, _ => exact v_field2 4 (opAtW ho (by kernel_rfl)) (hT0 4 _ (by decide) h4) (hK _ (Below.refl _ _))
    | 28, _ => exact s_loadI 59 (opAtW ho (by kernel_rfl)) (hU 27 (by kernel_rfl) rfl) (cell_of_row w g 2 _ _ _ (hg w hb)) (hK _ (Below.refl _ _))
    | 29, _ => exact v_geqc 60 (opAtW ho (by kernel_rfl)) (hU 28 (by kernel_rfl) rfl) (c6) (hK _ (Below.refl _ _))
    | 30, _ => exact v_orF 58 61 (opAtW ho (by kernel_rfl)) (hU 26 (by kernel_rfl) rfl) (hU 29 (by kernel_rfl) rfl) (hK _ (Below.refl _ _))
    | 31, _ => exact v_moveS 62 (opAtW ho (by kernel_rfl)) (hU 30 (by kernel_rfl) rfl) (hK _ (Below.refl _ _))
    | 32, _ => exact v_field4 4 (opAtW ho (by kernel_rfl)) (hT0 4 _ (by decide) h4) (hK _ (Below.refl _ _))
    | 33, _ => exact s_loadI 64 (opAtW ho (by kernel_rfl)) (hU 32 (by kernel_rfl) rfl) (cell_of_row w g 4 _ _ _ (hg w hb)) (hK _ (Below.refl _ _))
    | 34, _ => exact v_lssc 65 (opAtW ho (by kernel_rfl)) (hU 33 (by kernel_rfl) rfl) (c7) (hK _ (Below.refl _ _))
    | 35, _ => exact v_orF 63 66 (opAtW ho (by kernel_rfl)) (hU 31 (by kernel_rfl) rfl) (hU 34 (by kernel_rfl) rfl) (hK _ (Below.refl _ _))
    | 36, _ => exact v_moveS 67 (opAtW ho (by kernel_rfl)) (hU 35 (by kernel_rfl) rfl) (hK _ (Below.refl _ _))
    | 37, _ => exact v_field4 4 (opAtW ho (by kernel_rfl)) (hT0 4 _ (by decide) h4) (hK _ (Below.refl _ _))
    | 38, _ => exact s_loadI 69 (opAtW ho (by kernel_rfl)) (hU 37 (by kernel_rfl) rfl) (cell_of_row w g 4 _ _ _ (hg w hb)) (hK _ (Below.refl _ _))
    | 39, _ => exact v_gtrc 70 (opAtW ho (by kernel_rfl)) (hU 38 (by kernel_rfl) rfl) (c8) (hK _ (Below.refl _ _))
    | 40, _ => exact v_orF 68 71 (opAtW ho (by kernel_rfl)) (hU 36 (by kernel_rfl) rfl) (hU 39 (by kernel_rfl) rfl) (hK _ (Below.refl _ _))
    | 41, _ => exact v_moveS 72 (opAtW ho (by kernel_rfl)) (hU 40 (by kernel_rfl) rfl) (hK _ (Below.refl _ _))
    | 42, _ => exact v_field3 4 (opAtW ho (by kernel_rfl)) (hT0 4 _ (by decide) h4) (hK _ (Below.refl _ _))
    | 43, _ => exact s_loadI 74 (opAtW ho (by kernel_rfl)) (hU 42 (by kernel_rfl) rfl) (cell_of_row w g 3 _ _ _ (hg w hb)) (hK _ (Below.refl _ _))
    | 44, _ => exact v_lssc 75 (opAtW ho (by kernel_rfl)) (hU 43 (by kernel_rfl) rfl) (c9) (hK _ (Below.refl _ _))
    | 45, _ => exact v_orF 73 76 (opAtW ho (by kernel_rfl)) (hU 41 (by kernel_rfl) rfl) (hU 44 (by kernel_rfl) rfl) (hK _ (Below.refl _ _))
    | i + 46, h => exact absurd (show i + 46 < 46 from h) (by omega)
  · intro us w hu hb hv
    exact hend us w hu hb (hv 45 (by decide) rfl)
end Go.Proofs.YtkfcglgikemefaaDoor
namespace Go.Proofs.YtkfcglgikemefaaDoor
set_option maxRecDepth 100000
open Go.RowKit
set_option linter.unusedVariables false
theorem may_need {e : Ev} {T V S : Int} (h : mayB e T V S = true) : (1 ≤ T ∧ T ≤ 6 ∧ 1 ≤ V ∧ V ≤ 32 ∧ 1 ≤ S ∧ S ≤ V) ∧ (1 ≤ e.kd ∧ e.kd ≤ 13) ∧ (0 ≤ e.th ∧ e.th < T) ∧ bareF e = e ∧ (0 ≤ e.tx ∧ e.tx < 6) ∧ (0 ≤ e.v ∧ e.v ≤ 1099511627776) ∧ 0 ≤ e.pl := by
  rw [may_iff] at h
  obtain ⟨h1, h2, h3⟩ := h
  simp only [sizesB, Bool.and_eq_true, decide_eq_true_eq] at h1
  refine ⟨by omega, ?_, by omega, ?_, ?_, ?_, ?_⟩
  · clear h1 h2
    unfold MayK at h3
    rcases h3 with h | h | h | h | h | h | h | h <;> omega
  · clear h1 h2
    obtain ⟨kd, th, tx, pl, v, x, why⟩ := e
    unfold MayK at h3
    simp only at h3
    rcases h3 with ⟨rfl, _, rfl, _, rfl, rfl⟩ | ⟨rfl, rfl, _, _, rfl, rfl⟩ | ⟨rfl | rfl, rfl, _, rfl, _, rfl⟩ | ⟨rfl | rfl | rfl | rfl, rfl, _, rfl, rfl, rfl⟩ | ⟨rfl, rfl, rfl, _, rfl, rfl⟩ | ⟨rfl, rfl, rfl, _, rfl, rfl⟩ | ⟨rfl, rfl, _, rfl, rfl, _, _⟩ | ⟨rfl | rfl, rfl, rfl, rfl, rfl, rfl⟩ <;> rfl
  · clear h1 h2
    unfold MayK at h3
    rcases h3 with h | h | h | h | h | h | h | h <;> omega
  · clear h1 h2
    unfold MayK at h3
    rcases h3 with h | h | h | h | h | h | h | h <;> omega
  · clear h1 h2
    unfold MayK at h3
    rcases h3 with h | h | h | h | h | h | h | h <;> omega
def finB (e : Ev) (V S : Int) : Bool := if e.kd = 3 ∨ e.kd = 8 then decide (e.pl < V) else if e.kd = 5 then decide (1 ≤ e.v) else if e.kd = 10 then (decide (1 ≤ e.why) && (decide (e.why ≤ 6) && (decide (e.pl < S) && (e.why != 6 || e.pl == 0)))) else decide (e.pl < S)
theorem may_final {e : Ev} (ok : EvOk e) {T V S : Int} (h1 : 1 ≤ T ∧ T ≤ 6 ∧ 1 ≤ V ∧ V ≤ 32 ∧ 1 ≤ S ∧ S ≤ V) (h2 : 1 ≤ e.kd ∧ e.kd ≤ 13) (h3 : 0 ≤ e.th ∧ e.th < T) (h4 : bareF e = e) (h5 : 0 ≤ e.tx ∧ e.tx < 6) (h6 : 0 ≤ e.v ∧ e.v ≤ 1099511627776) (h7 : 0 ≤ e.pl) : mayB e T V S = finB e V S := by
  have hx0 := ok.y0
  have hx1 := ok.y1
  clear ok
  have hs : sizesB T V S = true := by simp only [sizesB, Bool.and_eq_true, decide_eq_true_eq]; omega
  rw [Bool.eq_iff_iff, may_iff]
  obtain ⟨kd, th, tx, pl, v, x, why⟩ := e
  simp only at h2 h3 h5 h6 h7 hx0 hx1
  have hth : 0 ≤ th ∧ th ≤ T - 1 := by omega
  simp only [hs, hth, true_and, and_self]
  clear hs hth h3
  have hk : kd = 1 ∨ kd = 2 ∨ kd = 3 ∨ kd = 4 ∨ kd = 5 ∨ kd = 6 ∨ kd = 7 ∨ kd = 8 ∨ kd = 9 ∨ kd = 10 ∨ kd = 11 ∨ kd = 12 ∨ kd = 13 := by omega
  rcases hk with rfl | rfl | rfl | rfl | rfl | rfl | rfl | rfl | rfl | rfl | rfl | rfl | rfl <;>
    (simp [bareF] at h4; simp [MayK, finB]; omega)
theorem nm_full {k : Nat} (h1 : 1 ≤ k) (h2 : k ≤ 13) : (bsW (nmL k)).toList.isEmpty = false := by
  rw [ByteArray.toList_eq, bsW_list]
  have : k = 1 ∨ k = 2 ∨ k = 3 ∨ k = 4 ∨ k = 5 ∨ k = 6 ∨ k = 7 ∨ k = 8 ∨ k = 9 ∨ k = 10 ∨ k = 11 ∨ k = 12 ∨ k = 13 := by omega
  rcases this with rfl | rfl | rfl | rfl | rfl | rfl | rfl | rfl | rfl | rfl | rfl | rfl | rfl <;> rfl
theorem nm_none {k : Nat} (h : ¬ (1 ≤ k ∧ k ≤ 13)) : (bsW (nmL k)).toList.isEmpty = true := by
  rw [ByteArray.toList_eq, bsW_list]
  by_cases h0 : k = 0
  · subst h0; rfl
  · rw [nmL_none (by omega)]; rfl
theorem ev_neq {d e : Ev} (h : d ≠ e) : (!(d.kd == e.kd && (d.th == e.th && (d.tx == e.tx && (d.pl == e.pl && (d.v == e.v && (d.x == e.x && d.why == e.why))))))) = true := by
  rw [Bool.not_eq_true']
  rw [Bool.eq_false_iff]
  intro hh
  simp only [Bool.and_eq_true, beq_iff_eq] at hh
  obtain ⟨a, b, c, f, g, i, j⟩ := hh
  cases d; cases e
  simp only at a b c f g i j
  exact h (by rw [a, b, c, f, g, i, j])
theorem ev_eq (e : Ev) : (!(e.kd == e.kd && (e.th == e.th && (e.tx == e.tx && (e.pl == e.pl && (e.v == e.v && (e.x == e.x && e.why == e.why))))))) = false := by simp
set_option maxHeartbeats 4000000 in
theorem rmay_no (e : Ev) (T V S : Int) (h : ¬ (1 ≤ T ∧ T ≤ 6 ∧ 1 ≤ V ∧ V ≤ 32 ∧ 1 ≤ S ∧ S ≤ V)) (w : World) :
    Calls Tryd.prog 48 #[evV e, .int .i64 T, .int .i64 V, .int .i64 S] w fun r w' => r = .returned (.bool false) ∧ Below w.heap.size w w' := by
  obtain ⟨kd, th, tx, pl, v, x, why⟩ := e
  unfold evV
  simp only
  by_cases d1 : T < 1
  · clear h
    go_enter Tryd.func48, Tryd.ntmps48
    go_wp2_with fail
    go_ret
    exact ⟨rfl, (Below.refl _ _).alloc (Nat.le_refl _) _⟩
  · skip
    by_cases d2 : 6 < T
    · clear h
      have e1 : decide (T < 1) = false := decide_eq_false d1
      go_enter Tryd.func48, Tryd.ntmps48
      go_wp2_with fail
      go_ret
      exact ⟨rfl, (Below.refl _ _).alloc (Nat.le_refl _) _⟩
    · skip
      by_cases d3 : V < 1
      · clear h
        have e1 : decide (T < 1) = false := decide_eq_false d1
        have e2 : decide (6 < T) = false := decide_eq_false d2
        go_enter Tryd.func48, Tryd.ntmps48
        go_wp2_with fail
        go_ret
        exact ⟨rfl, (Below.refl _ _).alloc (Nat.le_refl _) _⟩
      · skip
        by_cases d4 : 32 < V
        · clear h
          have e1 : decide (T < 1) = false := decide_eq_false d1
          have e2 : decide (6 < T) = false := decide_eq_false d2
          have e3 : decide (V < 1) = false := decide_eq_false d3
          go_enter Tryd.func48, Tryd.ntmps48
          go_wp2_with fail
          go_ret
          exact ⟨rfl, (Below.refl _ _).alloc (Nat.le_refl _) _⟩
        · skip
          by_cases d5 : S < 1
          · clear h
            have e1 : decide (T < 1) = false := decide_eq_false d1
            have e2 : decide (6 < T) = false := decide_eq_false d2
            have e3 : decide (V < 1) = false := decide_eq_false d3
            have e4 : decide (32 < V) = false := decide_eq_false d4
            go_enter Tryd.func48, Tryd.ntmps48
            go_wp2_with fail
            go_ret
            exact ⟨rfl, (Below.refl _ _).alloc (Nat.le_refl _) _⟩
          · skip
            by_cases d6 : V < S
            · clear h
              have e1 : decide (T < 1) = false := decide_eq_false d1
              have e2 : decide (6 < T) = false := decide_eq_false d2
              have e3 : decide (V < 1) = false := decide_eq_false d3
              have e4 : decide (32 < V) = false := decide_eq_false d4
              have e5 : decide (S < 1) = false := decide_eq_false d5
              go_enter Tryd.func48, Tryd.ntmps48
              go_wp2_with fail
              go_ret
              exact ⟨rfl, (Below.refl _ _).alloc (Nat.le_refl _) _⟩
            · exact absurd ⟨by omega, by omega, by omega, by omega, by omega, by omega⟩ h
set_option maxHeartbeats 8000000 in
theorem rmay_yes (e : Ev) (ok : EvOk e) (T V S : Int) (hs : 1 ≤ T ∧ T ≤ 6 ∧ 1 ≤ V ∧ V ≤ 32 ∧ 1 ≤ S ∧ S ≤ V) (w : World) (he : Er w) :
    Calls Tryd.prog 48 #[evV e, .int .i64 T, .int .i64 V, .int .i64 S] w fun r w' => r = .returned (.bool (mayB e T V S)) ∧ Below w.heap.size w w' := by
  obtain ⟨R, hR⟩ : ∃ R, R = mayB e T V S := ⟨_, rfl⟩
  rw [← hR]
  have HNO : Hid (¬ ((1 ≤ e.kd ∧ e.kd ≤ 13) ∧ (0 ≤ e.th ∧ e.th < T) ∧ bareF e = e ∧ (0 ≤ e.tx ∧ e.tx < 6) ∧ (0 ≤ e.v ∧ e.v ≤ 1099511627776) ∧ 0 ≤ e.pl) → R = false) := fun h => by
    rw [hR]
    exact Bool.eq_false_iff.2 fun hm => h (may_need hm).2
  have HYES : Hid ((1 ≤ e.kd ∧ e.kd ≤ 13) → (0 ≤ e.th ∧ e.th < T) → bareF e = e → (0 ≤ e.tx ∧ e.tx < 6) → (0 ≤ e.v ∧ e.v ≤ 1099511627776) → 0 ≤ e.pl → R = finB e V S) := fun a b c d f g => by
    rw [hR]
    exact may_final ok hs a b c d f g
  have k0 := ok.k0
  have k1 := ok.k1
  have w0 := ok.w0
  have w1 := ok.w1
  obtain ⟨s1, s2, s3, s4, s5, s6⟩ := hs
  clear hR ok
  obtain ⟨kn, hkn⟩ : ∃ k : Nat, e.kd = k := ⟨e.kd.toNat, by omega⟩
  obtain ⟨b, hb⟩ : ∃ b, b = bareF e := ⟨_, rfl⟩
  have HBR : Hid (∀ wx, Calls Tryd.prog 86 #[evV e] wx fun r w' => r = .returned (evV b) ∧ Below wx.heap.size wx w') := fun wx => hb ▸ rbare_any e wx
  have HNM : Hid (∀ wx, Below w.heap.size w wx → Calls Tryd.prog 85 #[.int .u8 e.kd] wx fun r w' => r = .returned (.string (bsW (nmL kn))) ∧ Below wx.heap.size wx w') := fun wx h => by
    rw [hkn]
    exact (rname_any kn (by omega) wx (he.below h)).mono fun r w' ⟨h1, h2⟩ => ⟨h1, h2 ▸ Below.refl _ _⟩
  have HNB : Hid (bareF e ≠ e → (!(b.kd == e.kd && (b.th == e.th && (b.tx == e.tx && (b.pl == e.pl && (b.v == e.v && (b.x == e.x && b.why == e.why))))))) = true) := fun h => ev_neq (by rw [hb]; exact h)
  have HEB : Hid (bareF e = e → (!(b.kd == e.kd && (b.th == e.th && (b.tx == e.tx && (b.pl == e.pl && (b.v == e.v && (b.x == e.x && b.why == e.why))))))) = false) := fun h => by rw [hb, h]; exact ev_eq e
  clear hb he
  obtain ⟨kd, th, tx, pl, v, x, why⟩ := e
  obtain ⟨b0, b1, b2, b3, b4, b5, b6⟩ := b
  unfold evV at HBR ⊢
  simp only at HNO HYES hkn HBR HNM HNB HEB k0 k1 w0 w1 ⊢
  have HKN := Lib.hid hkn
  have knb : kn ≤ 255 := by omega
  clear hkn
  have e1 : decide (T < 1) = false := decide_eq_false (by omega)
  have e2 : decide (6 < T) = false := decide_eq_false (by omega)
  have e3 : decide (V < 1) = false := decide_eq_false (by omega)
  have e4 : decide (32 < V) = false := decide_eq_false (by omega)
  have e5 : decide (S < 1) = false := decide_eq_false (by omega)
  have e6 : decide (V < S) = false := decide_eq_false (by omega)
  go_enter Tryd.func48, Tryd.ntmps48
  go_wp2_with fail
  obtain ⟨W0, hW0⟩ : ∃ W0, W0 = w.alloc (.cells #[.int .u8 kd, .int .i64 th, .int .i64 tx, .int .i64 pl, .int .i64 v, .int .i64 x, .int .u8 why] 46) := ⟨_, rfl⟩
  obtain ⟨g, hg⟩ : ∃ g, g = w.heap.size := ⟨_, rfl⟩
  have hr : W0.heap[g]? = some (.cells #[.int .u8 kd, .int .i64 th, .int .i64 tx, .int .i64 pl, .int .i64 v, .int .i64 x, .int .u8 why] 46 (0, 0)) := by rw [hW0, hg]; exact heap_alloc_new w _
  have hb0 : Below w.heap.size w W0 := by rw [hW0]; exact (Below.refl _ _).alloc (Nat.le_refl _) _
  have HR := Lib.hid hr
  have HB0 := Lib.hid hb0
  rw [← hW0, ← hg]
  clear hW0 hg hr hb0
  by_cases q1 : 1 ≤ kn ∧ kn ≤ 13
  · skip
    by_cases q2 : 0 ≤ th
    · skip
      by_cases q3 : th < T
      · skip
        by_cases q4 : bareF ⟨kd, th, tx, pl, v, x, why⟩ = ⟨kd, th, tx, pl, v, x, why⟩
        · skip
          by_cases q5 : 0 ≤ tx
          · skip
            by_cases q6 : tx < 6
            · skip
              by_cases q7 : 0 ≤ v
              · skip
                by_cases q8 : v ≤ 1099511627776
                · skip
                  by_cases q9 : 0 ≤ pl
                  · skip
                    refine regR3_0 rfl _ (by simp) W0 g kn kd th tx pl v x why T b0 b1 b2 b3 b4 b5 b6 HKN.out (fun wx h => row_stays HR.out h) (fun wx h => HNM.out wx (HB0.out.trans (h.mono HB0.out.size))) (fun wx _ => HBR.out wx) (nm_full q1.1 q1.2) (decide_eq_false (by omega)) (decide_eq_false (by omega)) (HEB.out q4) (decide_eq_false (by omega)) (decide_eq_false (by omega)) (decide_eq_false (by omega)) (decide_eq_false (by omega)) (decide_eq_false (by omega)) rfl rfl ?_
                    intro us w5 hu b5 h45
                    obtain ⟨z0, z1, z2, z3, z4, z5, z6, z7, z8, z9, z10, z11, z12, z13, z14, z15, z16, z17, z18, z19, z20, z21, z22, z23, z24, z25, z26, z27, z28, z29, z30, z31, z32, z33, z34, z35, z36, z37, z38, z39, z40, z41, z42, z43, z44, z45, rfl⟩ : ∃ z0 z1 z2 z3 z4 z5 z6 z7 z8 z9 z10 z11 z12 z13 z14 z15 z16 z17 z18 z19 z20 z21 z22 z23 z24 z25 z26 z27 z28 z29 z30 z31 z32 z33 z34 z35 z36 z37 z38 z39 z40 z41 z42 z43 z44 z45 : Value, us = [z0, z1, z2, z3, z4, z5, z6, z7, z8, z9, z10, z11, z12, z13, z14, z15, z16, z17, z18, z19, z20, z21, z22, z23, z24, z25, z26, z27, z28, z29, z30, z31, z32, z33, z34, z35, z36, z37, z38, z39, z40, z41, z42, z43, z44, z45] := by
                      obtain ⟨z0, r0, rfl, hl0⟩ := cons_ofW hu
                      obtain ⟨z1, r1, rfl, hl1⟩ := cons_ofW hl0
                      obtain ⟨z2, r2, rfl, hl2⟩ := cons_ofW hl1
                      obtain ⟨z3, r3, rfl, hl3⟩ := cons_ofW hl2
                      obtain ⟨z4, r4, rfl, hl4⟩ := cons_ofW hl3
                      obtain ⟨z5, r5, rfl, hl5⟩ := cons_ofW hl4
                      obtain ⟨z6, r6, rfl, hl6⟩ := cons_ofW hl5
                      obtain ⟨z7, r7, rfl, hl7⟩ := cons_ofW hl6
                      obtain ⟨z8, r8, rfl, hl8⟩ := cons_ofW hl7
                      obtain ⟨z9, r9, rfl, hl9⟩ := cons_ofW hl8
                      obtain ⟨z10, r10, rfl, hl10⟩ := cons_ofW hl9
                      obtain ⟨z11, r11, rfl, hl11⟩ := cons_ofW hl10
                      obtain ⟨z12, r12, rfl, hl12⟩ := cons_ofW hl11
                      obtain ⟨z13, r13, rfl, hl13⟩ := cons_ofW hl12
                      obtain ⟨z14, r14, rfl, hl14⟩ := cons_ofW hl13
                      obtain ⟨z15, r15, rfl, hl15⟩ := cons_ofW hl14
                      obtain ⟨z16, r16, rfl, hl16⟩ := cons_ofW hl15
                      obtain ⟨z17, r17, rfl, hl17⟩ := cons_ofW hl16
                      obtain ⟨z18, r18, rfl, hl18⟩ := cons_ofW hl17
                      obtain ⟨z19, r19, rfl, hl19⟩ := cons_ofW hl18
                      obtain ⟨z20, r20, rfl, hl20⟩ := cons_ofW hl19
                      obtain ⟨z21, r21, rfl, hl21⟩ := cons_ofW hl20
                      obtain ⟨z22, r22, rfl, hl22⟩ := cons_ofW hl21
                      obtain ⟨z23, r23, rfl, hl23⟩ := cons_ofW hl22
                      obtain ⟨z24, r24, rfl, hl24⟩ := cons_ofW hl23
                      obtain ⟨z25, r25, rfl, hl25⟩ := cons_ofW hl24
                      obtain ⟨z26, r26, rfl, hl26⟩ := cons_ofW hl25
                      obtain ⟨z27, r27, rfl, hl27⟩ := cons_ofW hl26
                      obtain ⟨z28, r28, rfl, hl28⟩ := cons_ofW hl27
                      obtain ⟨z29, r29, rfl, hl29⟩ := cons_ofW hl28
                      obtain ⟨z30, r30, rfl, hl30⟩ := cons_ofW hl29
                      obtain ⟨z31, r31, rfl, hl31⟩ := cons_ofW hl30
                      obtain ⟨z32, r32, rfl, hl32⟩ := cons_ofW hl31
                      obtain ⟨z33, r33, rfl, hl33⟩ := cons_ofW hl32
                      obtain ⟨z34, r34, rfl, hl34⟩ := cons_ofW hl33
                      obtain ⟨z35, r35, rfl, hl35⟩ := cons_ofW hl34
                      obtain ⟨z36, r36, rfl, hl36⟩ := cons_ofW hl35
                      obtain ⟨z37, r37, rfl, hl37⟩ := cons_ofW hl36
                      obtain ⟨z38, r38, rfl, hl38⟩ := cons_ofW hl37
                      obtain ⟨z39, r39, rfl, hl39⟩ := cons_ofW hl38
                      obtain ⟨z40, r40, rfl, hl40⟩ := cons_ofW hl39
                      obtain ⟨z41, r41, rfl, hl41⟩ := cons_ofW hl40
                      obtain ⟨z42, r42, rfl, hl42⟩ := cons_ofW hl41
                      obtain ⟨z43, r43, rfl, hl43⟩ := cons_ofW hl42
                      obtain ⟨z44, r44, rfl, hl44⟩ := cons_ofW hl43
                      obtain ⟨z45, r45, rfl, hl45⟩ := cons_ofW hl44
                      obtain rfl := List.length_eq_zero_iff.1 hl45
                      exact ⟨z0, z1, z2, z3, z4, z5, z6, z7, z8, z9, z10, z11, z12, z13, z14, z15, z16, z17, z18, z19, z20, z21, z22, z23, z24, z25, z26, z27, z28, z29, z30, z31, z32, z33, z34, z35, z36, z37, z38, z39, z40, z41, z42, z43, z44, z45, rfl⟩
                    obtain rfl : z45 = .bool false := h45
                    have B5 : Hid (Below w.heap.size w w5) := HB0.out.trans (b5.mono HB0.out.size)
                    obtain ⟨x0, x1, x2, x3, x4, x5, x6⟩ := evat (row_stays HR.out b5)
                    simp only [regR3_0_ds, putAll, List.setIfInBounds_toArray, List.set_cons_succ, List.set_cons_zero]
                    have HF := Lib.hid (HYES.out ⟨by have := HKN.out; omega, by have := HKN.out; omega⟩ ⟨q2, q3⟩ q4 ⟨q5, q6⟩ ⟨q7, q8⟩ q9)
                    clear HYES HNO hu b5 HNM HBR HNB HEB HR HB0 q4 e1 e2 e3 e4 e5 e6
                    have hkk : kn = 1 ∨ kn = 2 ∨ kn = 3 ∨ kn = 4 ∨ kn = 5 ∨ kn = 6 ∨ kn = 7 ∨ kn = 8 ∨ kn = 9 ∨ kn = 10 ∨ kn = 11 ∨ kn = 12 ∨ kn = 13 := by omega
                    by_cases kten : kn = 10
                    · subst kten
                      obtain rfl : kd = 10 := HKN.out
                      by_cases a1 : 1 ≤ why
                      · by_cases a2 : why ≤ 6
                        · by_cases a3 : pl < S
                          · by_cases a4 : why = 6
                            · subst a4
                              go_wp2_with fail
                              go_ret
                              exact ⟨by rw [HF.out]; simp [finB, a3], B5.out⟩
                            · have a5 : (why == 6) = false := beq_eq_false_iff_ne.2 a4
                              have a6 : (why != 6) = true := by simp [a4]
                              go_wp2_with fail
                              go_ret
                              exact ⟨by rw [HF.out]; simp [finB, a1, a2, a3, a4], B5.out⟩
                          · have a5 : decide (pl < S) = false := decide_eq_false a3
                            go_wp2_with fail
                            go_ret
                            exact ⟨by rw [HF.out]; simp [finB, a5], B5.out⟩
                        · have a5 : decide (why ≤ 6) = false := decide_eq_false a2
                          go_wp2_with fail
                          go_ret
                          exact ⟨by rw [HF.out]; simp [finB, a5], B5.out⟩
                      · have a5 : decide (1 ≤ why) = false := decide_eq_false a1
                        go_wp2_with fail
                        go_ret
                        exact ⟨by rw [HF.out]; simp [finB, a5], B5.out⟩
                    · rcases hkk with rfl | rfl | rfl | rfl | rfl | rfl | rfl | rfl | rfl | rfl | rfl | rfl | rfl
                      iterate 9
                        · obtain rfl := HKN.out
                          clear kten
                          go_wp2_with fail
                          go_ret
                          exact ⟨by rw [HF.out]; simp [finB], B5.out⟩
                      · exact absurd rfl kten
                      iterate 3
                        · obtain rfl := HKN.out
                          clear kten
                          go_wp2_with fail
                          go_ret
                          exact ⟨by rw [HF.out]; simp [finB], B5.out⟩
                  · have hRf := HNO.out (fun hh => q9 (by omega))
                    refine regR3_9 rfl _ (by simp) W0 g kn kd th tx pl v x why T b0 b1 b2 b3 b4 b5 b6 HKN.out (fun wx h => row_stays HR.out h) (fun wx h => HNM.out wx (HB0.out.trans (h.mono HB0.out.size))) (fun wx _ => HBR.out wx) (nm_full q1.1 q1.2) (decide_eq_false (by omega)) (decide_eq_false (by omega)) (HEB.out q4) (decide_eq_false (by omega)) (decide_eq_false (by omega)) (decide_eq_false (by omega)) (decide_eq_false (by omega)) (decide_eq_true (by omega)) rfl rfl ?_
                    intro us w5 hu b5 h45
                    obtain ⟨z0, z1, z2, z3, z4, z5, z6, z7, z8, z9, z10, z11, z12, z13, z14, z15, z16, z17, z18, z19, z20, z21, z22, z23, z24, z25, z26, z27, z28, z29, z30, z31, z32, z33, z34, z35, z36, z37, z38, z39, z40, z41, z42, z43, z44, z45, rfl⟩ : ∃ z0 z1 z2 z3 z4 z5 z6 z7 z8 z9 z10 z11 z12 z13 z14 z15 z16 z17 z18 z19 z20 z21 z22 z23 z24 z25 z26 z27 z28 z29 z30 z31 z32 z33 z34 z35 z36 z37 z38 z39 z40 z41 z42 z43 z44 z45 : Value, us = [z0, z1, z2, z3, z4, z5, z6, z7, z8, z9, z10, z11, z12, z13, z14, z15, z16, z17, z18, z19, z20, z21, z22, z23, z24, z25, z26, z27, z28, z29, z30, z31, z32, z33, z34, z35, z36, z37, z38, z39, z40, z41, z42, z43, z44, z45] := by
                      obtain ⟨z0, r0, rfl, hl0⟩ := cons_ofW hu
                      obtain ⟨z1, r1, rfl, hl1⟩ := cons_ofW hl0
                      obtain ⟨z2, r2, rfl, hl2⟩ := cons_ofW hl1
                      obtain ⟨z3, r3, rfl, hl3⟩ := cons_ofW hl2
                      obtain ⟨z4, r4, rfl, hl4⟩ := cons_ofW hl3
                      obtain ⟨z5, r5, rfl, hl5⟩ := cons_ofW hl4
                      obtain ⟨z6, r6, rfl, hl6⟩ := cons_ofW hl5
                      obtain ⟨z7, r7, rfl, hl7⟩ := cons_ofW hl6
                      obtain ⟨z8, r8, rfl, hl8⟩ := cons_ofW hl7
                      obtain ⟨z9, r9, rfl, hl9⟩ := cons_ofW hl8
                      obtain ⟨z10, r10, rfl, hl10⟩ := cons_ofW hl9
                      obtain ⟨z11, r11, rfl, hl11⟩ := cons_ofW hl10
                      obtain ⟨z12, r12, rfl, hl12⟩ := cons_ofW hl11
                      obtain ⟨z13, r13, rfl, hl13⟩ := cons_ofW hl12
                      obtain ⟨z14, r14, rfl, hl14⟩ := cons_ofW hl13
                      obtain ⟨z15, r15, rfl, hl15⟩ := cons_ofW hl14
                      obtain ⟨z16, r16, rfl, hl16⟩ := cons_ofW hl15
                      obtain ⟨z17, r17, rfl, hl17⟩ := cons_ofW hl16
                      obtain ⟨z18, r18, rfl, hl18⟩ := cons_ofW hl17
                      obtain ⟨z19, r19, rfl, hl19⟩ := cons_ofW hl18
                      obtain ⟨z20, r20, rfl, hl20⟩ := cons_ofW hl19
                      obtain ⟨z21, r21, rfl, hl21⟩ := cons_ofW hl20
                      obtain ⟨z22, r22, rfl, hl22⟩ := cons_ofW hl21
                      obtain ⟨z23, r23, rfl, hl23⟩ := cons_ofW hl22
                      obtain ⟨z24, r24, rfl, hl24⟩ := cons_ofW hl23
                      obtain ⟨z25, r25, rfl, hl25⟩ := cons_ofW hl24
                      obtain ⟨z26, r26, rfl, hl26⟩ := cons_ofW hl25
                      obtain ⟨z27, r27, rfl, hl27⟩ := cons_ofW hl26
                      obtain ⟨z28, r28, rfl, hl28⟩ := cons_ofW hl27
                      obtain ⟨z29, r29, rfl, hl29⟩ := cons_ofW hl28
                      obtain ⟨z30, r30, rfl, hl30⟩ := cons_ofW hl29
                      obtain ⟨z31, r31, rfl, hl31⟩ := cons_ofW hl30
                      obtain ⟨z32, r32, rfl, hl32⟩ := cons_ofW hl31
                      obtain ⟨z33, r33, rfl, hl33⟩ := cons_ofW hl32
                      obtain ⟨z34, r34, rfl, hl34⟩ := cons_ofW hl33
                      obtain ⟨z35, r35, rfl, hl35⟩ := cons_ofW hl34
                      obtain ⟨z36, r36, rfl, hl36⟩ := cons_ofW hl35
                      obtain ⟨z37, r37, rfl, hl37⟩ := cons_ofW hl36
                      obtain ⟨z38, r38, rfl, hl38⟩ := cons_ofW hl37
                      obtain ⟨z39, r39, rfl, hl39⟩ := cons_ofW hl38
                      obtain ⟨z40, r40, rfl, hl40⟩ := cons_ofW hl39
                      obtain ⟨z41, r41, rfl, hl41⟩ := cons_ofW hl40
                      obtain ⟨z42, r42, rfl, hl42⟩ := cons_ofW hl41
                      obtain ⟨z43, r43, rfl, hl43⟩ := cons_ofW hl42
                      obtain ⟨z44, r44, rfl, hl44⟩ := cons_ofW hl43
                      obtain ⟨z45, r45, rfl, hl45⟩ := cons_ofW hl44
                      obtain rfl := List.length_eq_zero_iff.1 hl45
                      exact ⟨z0, z1, z2, z3, z4, z5, z6, z7, z8, z9, z10, z11, z12, z13, z14, z15, z16, z17, z18, z19, z20, z21, z22, z23, z24, z25, z26, z27, z28, z29, z30, z31, z32, z33, z34, z35, z36, z37, z38, z39, z40, z41, z42, z43, z44, z45, rfl⟩
                    obtain rfl : z45 = .bool true := h45
                    have B5 : Hid (Below w.heap.size w w5) := HB0.out.trans (b5.mono HB0.out.size)
                    obtain ⟨x0, x1, x2, x3, x4, x5, x6⟩ := evat (row_stays HR.out b5)
                    simp only [regR3_9_ds, putAll, List.setIfInBounds_toArray, List.set_cons_succ, List.set_cons_zero]
                    clear HYES HNO hu b5 HNM HBR HNB HEB HR HB0
                    subst hRf
                    go_wp2_with fail
                    go_ret
                    exact ⟨rfl, B5.out⟩
                · have hRf := HNO.out (fun hh => q8 (by omega))
                  refine regR3_8 rfl _ (by simp) W0 g kn kd th tx pl v x why T b0 b1 b2 b3 b4 b5 b6 HKN.out (fun wx h => row_stays HR.out h) (fun wx h => HNM.out wx (HB0.out.trans (h.mono HB0.out.size))) (fun wx _ => HBR.out wx) (nm_full q1.1 q1.2) (decide_eq_false (by omega)) (decide_eq_false (by omega)) (HEB.out q4) (decide_eq_false (by omega)) (decide_eq_false (by omega)) (decide_eq_false (by omega)) (decide_eq_true (by omega)) rfl rfl ?_
                  intro us w5 hu b5 h45
                  obtain ⟨z0, z1, z2, z3, z4, z5, z6, z7, z8, z9, z10, z11, z12, z13, z14, z15, z16, z17, z18, z19, z20, z21, z22, z23, z24, z25, z26, z27, z28, z29, z30, z31, z32, z33, z34, z35, z36, z37, z38, z39, z40, z41, z42, z43, z44, z45, rfl⟩ : ∃ z0 z1 z2 z3 z4 z5 z6 z7 z8 z9 z10 z11 z12 z13 z14 z15 z16 z17 z18 z19 z20 z21 z22 z23 z24 z25 z26 z27 z28 z29 z30 z31 z32 z33 z34 z35 z36 z37 z38 z39 z40 z41 z42 z43 z44 z45 : Value, us = [z0, z1, z2, z3, z4, z5, z6, z7, z8, z9, z10, z11, z12, z13, z14, z15, z16, z17, z18, z19, z20, z21, z22, z23, z24, z25, z26, z27, z28, z29, z30, z31, z32, z33, z34, z35, z36, z37, z38, z39, z40, z41, z42, z43, z44, z45] := by
                    obtain ⟨z0, r0, rfl, hl0⟩ := cons_ofW hu
                    obtain ⟨z1, r1, rfl, hl1⟩ := cons_ofW hl0
                    obtain ⟨z2, r2, rfl, hl2⟩ := cons_ofW hl1
                    obtain ⟨z3, r3, rfl, hl3⟩ := cons_ofW hl2
                    obtain ⟨z4, r4, rfl, hl4⟩ := cons_ofW hl3
                    obtain ⟨z5, r5, rfl, hl5⟩ := cons_ofW hl4
                    obtain ⟨z6, r6, rfl, hl6⟩ := cons_ofW hl5
                    obtain ⟨z7, r7, rfl, hl7⟩ := cons_ofW hl6
                    obtain ⟨z8, r8, rfl, hl8⟩ := cons_ofW hl7
                    obtain ⟨z9, r9, rfl, hl9⟩ := cons_ofW hl8
                    obtain ⟨z10, r10, rfl, hl10⟩ := cons_ofW hl9
                    obtain ⟨z11, r11, rfl, hl11⟩ := cons_ofW hl10
                    obtain ⟨z12, r12, rfl, hl12⟩ := cons_ofW hl11
                    obtain ⟨z13, r13, rfl, hl13⟩ := cons_ofW hl12
                    obtain ⟨z14, r14, rfl, hl14⟩ := cons_ofW hl13
                    obtain ⟨z15, r15, rfl, hl15⟩ := cons_ofW hl14
                    obtain ⟨z16, r16, rfl, hl16⟩ := cons_ofW hl15
                    obtain ⟨z17, r17, rfl, hl17⟩ := cons_ofW hl16
                    obtain ⟨z18, r18, rfl, hl18⟩ := cons_ofW hl17
                    obtain ⟨z19, r19, rfl, hl19⟩ := cons_ofW hl18
                    obtain ⟨z20, r20, rfl, hl20⟩ := cons_ofW hl19
                    obtain ⟨z21, r21, rfl, hl21⟩ := cons_ofW hl20
                    obtain ⟨z22, r22, rfl, hl22⟩ := cons_ofW hl21
                    obtain ⟨z23, r23, rfl, hl23⟩ := cons_ofW hl22
                    obtain ⟨z24, r24, rfl, hl24⟩ := cons_ofW hl23
                    obtain ⟨z25, r25, rfl, hl25⟩ := cons_ofW hl24
                    obtain ⟨z26, r26, rfl, hl26⟩ := cons_ofW hl25
                    obtain ⟨z27, r27, rfl, hl27⟩ := cons_ofW hl26
                    obtain ⟨z28, r28, rfl, hl28⟩ := cons_ofW hl27
                    obtain ⟨z29, r29, rfl, hl29⟩ := cons_ofW hl28
                    obtain ⟨z30, r30, rfl, hl30⟩ := cons_ofW hl29
                    obtain ⟨z31, r31, rfl, hl31⟩ := cons_ofW hl30
                    obtain ⟨z32, r32, rfl, hl32⟩ := cons_ofW hl31
                    obtain ⟨z33, r33, rfl, hl33⟩ := cons_ofW hl32
                    obtain ⟨z34, r34, rfl, hl34⟩ := cons_ofW hl33
                    obtain ⟨z35, r35, rfl, hl35⟩ := cons_ofW hl34
                    obtain ⟨z36, r36, rfl, hl36⟩ := cons_ofW hl35
                    obtain ⟨z37, r37, rfl, hl37⟩ := cons_ofW hl36
                    obtain ⟨z38, r38, rfl, hl38⟩ := cons_ofW hl37
                    obtain ⟨z39, r39, rfl, hl39⟩ := cons_ofW hl38
                    obtain ⟨z40, r40, rfl, hl40⟩ := cons_ofW hl39
                    obtain ⟨z41, r41, rfl, hl41⟩ := cons_ofW hl40
                    obtain ⟨z42, r42, rfl, hl42⟩ := cons_ofW hl41
                    obtain ⟨z43, r43, rfl, hl43⟩ := cons_ofW hl42
                    obtain ⟨z44, r44, rfl, hl44⟩ := cons_ofW hl43
                    obtain ⟨z45, r45, rfl, hl45⟩ := cons_ofW hl44
                    obtain rfl := List.length_eq_zero_iff.1 hl45
                    exact ⟨z0, z1, z2, z3, z4, z5, z6, z7, z8, z9, z10, z11, z12, z13, z14, z15, z16, z17, z18, z19, z20, z21, z22, z23, z24, z25, z26, z27, z28, z29, z30, z31, z32, z33, z34, z35, z36, z37, z38, z39, z40, z41, z42, z43, z44, z45, rfl⟩
                  obtain rfl : z45 = .bool true := h45
                  have B5 : Hid (Below w.heap.size w w5) := HB0.out.trans (b5.mono HB0.out.size)
                  obtain ⟨x0, x1, x2, x3, x4, x5, x6⟩ := evat (row_stays HR.out b5)
                  simp only [regR3_8_ds, putAll, List.setIfInBounds_toArray, List.set_cons_succ, List.set_cons_zero]
                  clear HYES HNO hu b5 HNM HBR HNB HEB HR HB0
                  subst hRf
                  go_wp2_with fail
                  go_ret
                  exact ⟨rfl, B5.out⟩
              · have hRf := HNO.out (fun hh => q7 (by omega))
                refine regR3_7 rfl _ (by simp) W0 g kn kd th tx pl v x why T b0 b1 b2 b3 b4 b5 b6 HKN.out (fun wx h => row_stays HR.out h) (fun wx h => HNM.out wx (HB0.out.trans (h.mono HB0.out.size))) (fun wx _ => HBR.out wx) (nm_full q1.1 q1.2) (decide_eq_false (by omega)) (decide_eq_false (by omega)) (HEB.out q4) (decide_eq_false (by omega)) (decide_eq_false (by omega)) (decide_eq_true (by omega)) rfl rfl ?_
                intro us w5 hu b5 h45
                obtain ⟨z0, z1, z2, z3, z4, z5, z6, z7, z8, z9, z10, z11, z12, z13, z14, z15, z16, z17, z18, z19, z20, z21, z22, z23, z24, z25, z26, z27, z28, z29, z30, z31, z32, z33, z34, z35, z36, z37, z38, z39, z40, z41, z42, z43, z44, z45, rfl⟩ : ∃ z0 z1 z2 z3 z4 z5 z6 z7 z8 z9 z10 z11 z12 z13 z14 z15 z16 z17 z18 z19 z20 z21 z22 z23 z24 z25 z26 z27 z28 z29 z30 z31 z32 z33 z34 z35 z36 z37 z38 z39 z40 z41 z42 z43 z44 z45 : Value, us = [z0, z1, z2, z3, z4, z5, z6, z7, z8, z9, z10, z11, z12, z13, z14, z15, z16, z17, z18, z19, z20, z21, z22, z23, z24, z25, z26, z27, z28, z29, z30, z31, z32, z33, z34, z35, z36, z37, z38, z39, z40, z41, z42, z43, z44, z45] := by
                  obtain ⟨z0, r0, rfl, hl0⟩ := cons_ofW hu
                  obtain ⟨z1, r1, rfl, hl1⟩ := cons_ofW hl0
                  obtain ⟨z2, r2, rfl, hl2⟩ := cons_ofW hl1
                  obtain ⟨z3, r3, rfl, hl3⟩ := cons_ofW hl2
                  obtain ⟨z4, r4, rfl, hl4⟩ := cons_ofW hl3
                  obtain ⟨z5, r5, rfl, hl5⟩ := cons_ofW hl4
                  obtain ⟨z6, r6, rfl, hl6⟩ := cons_ofW hl5
                  obtain ⟨z7, r7, rfl, hl7⟩ := cons_ofW hl6
                  obtain ⟨z8, r8, rfl, hl8⟩ := cons_ofW hl7
                  obtain ⟨z9, r9, rfl, hl9⟩ := cons_ofW hl8
                  obtain ⟨z10, r10, rfl, hl10⟩ := cons_ofW hl9
                  obtain ⟨z11, r11, rfl, hl11⟩ := cons_ofW hl10
                  obtain ⟨z12, r12, rfl, hl12⟩ := cons_ofW hl11
                  obtain ⟨z13, r13, rfl, hl13⟩ := cons_ofW hl12
                  obtain ⟨z14, r14, rfl, hl14⟩ := cons_ofW hl13
                  obtain ⟨z15, r15, rfl, hl15⟩ := cons_ofW hl14
                  obtain ⟨z16, r16, rfl, hl16⟩ := cons_ofW hl15
                  obtain ⟨z17, r17, rfl, hl17⟩ := cons_ofW hl16
                  obtain ⟨z18, r18, rfl, hl18⟩ := cons_ofW hl17
                  obtain ⟨z19, r19, rfl, hl19⟩ := cons_ofW hl18
                  obtain ⟨z20, r20, rfl, hl20⟩ := cons_ofW hl19
                  obtain ⟨z21, r21, rfl, hl21⟩ := cons_ofW hl20
                  obtain ⟨z22, r22, rfl, hl22⟩ := cons_ofW hl21
                  obtain ⟨z23, r23, rfl, hl23⟩ := cons_ofW hl22
                  obtain ⟨z24, r24, rfl, hl24⟩ := cons_ofW hl23
                  obtain ⟨z25, r25, rfl, hl25⟩ := cons_ofW hl24
                  obtain ⟨z26, r26, rfl, hl26⟩ := cons_ofW hl25
                  obtain ⟨z27, r27, rfl, hl27⟩ := cons_ofW hl26
                  obtain ⟨z28, r28, rfl, hl28⟩ := cons_ofW hl27
                  obtain ⟨z29, r29, rfl, hl29⟩ := cons_ofW hl28
                  obtain ⟨z30, r30, rfl, hl30⟩ := cons_ofW hl29
                  obtain ⟨z31, r31, rfl, hl31⟩ := cons_ofW hl30
                  obtain ⟨z32, r32, rfl, hl32⟩ := cons_ofW hl31
                  obtain ⟨z33, r33, rfl, hl33⟩ := cons_ofW hl32
                  obtain ⟨z34, r34, rfl, hl34⟩ := cons_ofW hl33
                  obtain ⟨z35, r35, rfl, hl35⟩ := cons_ofW hl34
                  obtain ⟨z36, r36, rfl, hl36⟩ := cons_ofW hl35
                  obtain ⟨z37, r37, rfl, hl37⟩ := cons_ofW hl36
                  obtain ⟨z38, r38, rfl, hl38⟩ := cons_ofW hl37
                  obtain ⟨z39, r39, rfl, hl39⟩ := cons_ofW hl38
                  obtain ⟨z40, r40, rfl, hl40⟩ := cons_ofW hl39
                  obtain ⟨z41, r41, rfl, hl41⟩ := cons_ofW hl40
                  obtain ⟨z42, r42, rfl, hl42⟩ := cons_ofW hl41
                  obtain ⟨z43, r43, rfl, hl43⟩ := cons_ofW hl42
                  obtain ⟨z44, r44, rfl, hl44⟩ := cons_ofW hl43
                  obtain ⟨z45, r45, rfl, hl45⟩ := cons_ofW hl44
                  obtain rfl := List.length_eq_zero_iff.1 hl45
                  exact ⟨z0, z1, z2, z3, z4, z5, z6, z7, z8, z9, z10, z11, z12, z13, z14, z15, z16, z17, z18, z19, z20, z21, z22, z23, z24, z25, z26, z27, z28, z29, z30, z31, z32, z33, z34, z35, z36, z37, z38, z39, z40, z41, z42, z43, z44, z45, rfl⟩
                obtain rfl : z45 = .bool true := h45
                have B5 : Hid (Below w.heap.size w w5) := HB0.out.trans (b5.mono HB0.out.size)
                obtain ⟨x0, x1, x2, x3, x4, x5, x6⟩ := evat (row_stays HR.out b5)
                simp only [regR3_7_ds, putAll, List.setIfInBounds_toArray, List.set_cons_succ, List.set_cons_zero]
                clear HYES HNO hu b5 HNM HBR HNB HEB HR HB0
                subst hRf
                go_wp2_with fail
                go_ret
                exact ⟨rfl, B5.out⟩
            · have hRf := HNO.out (fun hh => q6 (by omega))
              refine regR3_6 rfl _ (by simp) W0 g kn kd th tx pl v x why T b0 b1 b2 b3 b4 b5 b6 HKN.out (fun wx h => row_stays HR.out h) (fun wx h => HNM.out wx (HB0.out.trans (h.mono HB0.out.size))) (fun wx _ => HBR.out wx) (nm_full q1.1 q1.2) (decide_eq_false (by omega)) (decide_eq_false (by omega)) (HEB.out q4) (decide_eq_false (by omega)) (decide_eq_true (by omega)) rfl rfl ?_
              intro us w5 hu b5 h45
              obtain ⟨z0, z1, z2, z3, z4, z5, z6, z7, z8, z9, z10, z11, z12, z13, z14, z15, z16, z17, z18, z19, z20, z21, z22, z23, z24, z25, z26, z27, z28, z29, z30, z31, z32, z33, z34, z35, z36, z37, z38, z39, z40, z41, z42, z43, z44, z45, rfl⟩ : ∃ z0 z1 z2 z3 z4 z5 z6 z7 z8 z9 z10 z11 z12 z13 z14 z15 z16 z17 z18 z19 z20 z21 z22 z23 z24 z25 z26 z27 z28 z29 z30 z31 z32 z33 z34 z35 z36 z37 z38 z39 z40 z41 z42 z43 z44 z45 : Value, us = [z0, z1, z2, z3, z4, z5, z6, z7, z8, z9, z10, z11, z12, z13, z14, z15, z16, z17, z18, z19, z20, z21, z22, z23, z24, z25, z26, z27, z28, z29, z30, z31, z32, z33, z34, z35, z36, z37, z38, z39, z40, z41, z42, z43, z44, z45] := by
                obtain ⟨z0, r0, rfl, hl0⟩ := cons_ofW hu
                obtain ⟨z1, r1, rfl, hl1⟩ := cons_ofW hl0
                obtain ⟨z2, r2, rfl, hl2⟩ := cons_ofW hl1
                obtain ⟨z3, r3, rfl, hl3⟩ := cons_ofW hl2
                obtain ⟨z4, r4, rfl, hl4⟩ := cons_ofW hl3
                obtain ⟨z5, r5, rfl, hl5⟩ := cons_ofW hl4
                obtain ⟨z6, r6, rfl, hl6⟩ := cons_ofW hl5
                obtain ⟨z7, r7, rfl, hl7⟩ := cons_ofW hl6
                obtain ⟨z8, r8, rfl, hl8⟩ := cons_ofW hl7
                obtain ⟨z9, r9, rfl, hl9⟩ := cons_ofW hl8
                obtain ⟨z10, r10, rfl, hl10⟩ := cons_ofW hl9
                obtain ⟨z11, r11, rfl, hl11⟩ := cons_ofW hl10
                obtain ⟨z12, r12, rfl, hl12⟩ := cons_ofW hl11
                obtain ⟨z13, r13, rfl, hl13⟩ := cons_ofW hl12
                obtain ⟨z14, r14, rfl, hl14⟩ := cons_ofW hl13
                obtain ⟨z15, r15, rfl, hl15⟩ := cons_ofW hl14
                obtain ⟨z16, r16, rfl, hl16⟩ := cons_ofW hl15
                obtain ⟨z17, r17, rfl, hl17⟩ := cons_ofW hl16
                obtain ⟨z18, r18, rfl, hl18⟩ := cons_ofW hl17
                obtain ⟨z19, r19, rfl, hl19⟩ := cons_ofW hl18
                obtain ⟨z20, r20, rfl, hl20⟩ := cons_ofW hl19
                obtain ⟨z21, r21, rfl, hl21⟩ := cons_ofW hl20
                obtain ⟨z22, r22, rfl, hl22⟩ := cons_ofW hl21
                obtain ⟨z23, r23, rfl, hl23⟩ := cons_ofW hl22
                obtain ⟨z24, r24, rfl, hl24⟩ := cons_ofW hl23
                obtain ⟨z25, r25, rfl, hl25⟩ := cons_ofW hl24
                obtain ⟨z26, r26, rfl, hl26⟩ := cons_ofW hl25
                obtain ⟨z27, r27, rfl, hl27⟩ := cons_ofW hl26
                obtain ⟨z28, r28, rfl, hl28⟩ := cons_ofW hl27
                obtain ⟨z29, r29, rfl, hl29⟩ := cons_ofW hl28
                obtain ⟨z30, r30, rfl, hl30⟩ := cons_ofW hl29
                obtain ⟨z31, r31, rfl, hl31⟩ := cons_ofW hl30
                obtain ⟨z32, r32, rfl, hl32⟩ := cons_ofW hl31
                obtain ⟨z33, r33, rfl, hl33⟩ := cons_ofW hl32
                obtain ⟨z34, r34, rfl, hl34⟩ := cons_ofW hl33
                obtain ⟨z35, r35, rfl, hl35⟩ := cons_ofW hl34
                obtain ⟨z36, r36, rfl, hl36⟩ := cons_ofW hl35
                obtain ⟨z37, r37, rfl, hl37⟩ := cons_ofW hl36
                obtain ⟨z38, r38, rfl, hl38⟩ := cons_ofW hl37
                obtain ⟨z39, r39, rfl, hl39⟩ := cons_ofW hl38
                obtain ⟨z40, r40, rfl, hl40⟩ := cons_ofW hl39
                obtain ⟨z41, r41, rfl, hl41⟩ := cons_ofW hl40
                obtain ⟨z42, r42, rfl, hl42⟩ := cons_ofW hl41
                obtain ⟨z43, r43, rfl, hl43⟩ := cons_ofW hl42
                obtain ⟨z44, r44, rfl, hl44⟩ := cons_ofW hl43
                obtain ⟨z45, r45, rfl, hl45⟩ := cons_ofW hl44
                obtain rfl := List.length_eq_zero_iff.1 hl45
                exact ⟨z0, z1, z2, z3, z4, z5, z6, z7, z8, z9, z10, z11, z12, z13, z14, z15, z16, z17, z18, z19, z20, z21, z22, z23, z24, z25, z26, z27, z28, z29, z30, z31, z32, z33, z34, z35, z36, z37, z38, z39, z40, z41, z42, z43, z44, z45, rfl⟩
              obtain rfl : z45 = .bool true := h45
              have B5 : Hid (Below w.heap.size w w5) := HB0.out.trans (b5.mono HB0.out.size)
              obtain ⟨x0, x1, x2, x3, x4, x5, x6⟩ := evat (row_stays HR.out b5)
              simp only [regR3_6_ds, putAll, List.setIfInBounds_toArray, List.set_cons_succ, List.set_cons_zero]
              clear HYES HNO hu b5 HNM HBR HNB HEB HR HB0
              subst hRf
              go_wp2_with fail
              go_ret
              exact ⟨rfl, B5.out⟩
          · have hRf := HNO.out (fun hh => q5 (by omega))
            refine regR3_5 rfl _ (by simp) W0 g kn kd th tx pl v x why T b0 b1 b2 b3 b4 b5 b6 HKN.out (fun wx h => row_stays HR.out h) (fun wx h => HNM.out wx (HB0.out.trans (h.mono HB0.out.size))) (fun wx _ => HBR.out wx) (nm_full q1.1 q1.2) (decide_eq_false (by omega)) (decide_eq_false (by omega)) (HEB.out q4) (decide_eq_true (by omega)) rfl rfl ?_
            intro us w5 hu b5 h45
            obtain ⟨z0, z1, z2, z3, z4, z5, z6, z7, z8, z9, z10, z11, z12, z13, z14, z15, z16, z17, z18, z19, z20, z21, z22, z23, z24, z25, z26, z27, z28, z29, z30, z31, z32, z33, z34, z35, z36, z37, z38, z39, z40, z41, z42, z43, z44, z45, rfl⟩ : ∃ z0 z1 z2 z3 z4 z5 z6 z7 z8 z9 z10 z11 z12 z13 z14 z15 z16 z17 z18 z19 z20 z21 z22 z23 z24 z25 z26 z27 z28 z29 z30 z31 z32 z33 z34 z35 z36 z37 z38 z39 z40 z41 z42 z43 z44 z45 : Value, us = [z0, z1, z2, z3, z4, z5, z6, z7, z8, z9, z10, z11, z12, z13, z14, z15, z16, z17, z18, z19, z20, z21, z22, z23, z24, z25, z26, z27, z28, z29, z30, z31, z32, z33, z34, z35, z36, z37, z38, z39, z40, z41, z42, z43, z44, z45] := by
              obtain ⟨z0, r0, rfl, hl0⟩ := cons_ofW hu
              obtain ⟨z1, r1, rfl, hl1⟩ := cons_ofW hl0
              obtain ⟨z2, r2, rfl, hl2⟩ := cons_ofW hl1
              obtain ⟨z3, r3, rfl, hl3⟩ := cons_ofW hl2
              obtain ⟨z4, r4, rfl, hl4⟩ := cons_ofW hl3
              obtain ⟨z5, r5, rfl, hl5⟩ := cons_ofW hl4
              obtain ⟨z6, r6, rfl, hl6⟩ := cons_ofW hl5
              obtain ⟨z7, r7, rfl, hl7⟩ := cons_ofW hl6
              obtain ⟨z8, r8, rfl, hl8⟩ := cons_ofW hl7
              obtain ⟨z9, r9, rfl, hl9⟩ := cons_ofW hl8
              obtain ⟨z10, r10, rfl, hl10⟩ := cons_ofW hl9
              obtain ⟨z11, r11, rfl, hl11⟩ := cons_ofW hl10
              obtain ⟨z12, r12, rfl, hl12⟩ := cons_ofW hl11
              obtain ⟨z13, r13, rfl, hl13⟩ := cons_ofW hl12
              obtain ⟨z14, r14, rfl, hl14⟩ := cons_ofW hl13
              obtain ⟨z15, r15, rfl, hl15⟩ := cons_ofW hl14
              obtain ⟨z16, r16, rfl, hl16⟩ := cons_ofW hl15
              obtain ⟨z17, r17, rfl, hl17⟩ := cons_ofW hl16
              obtain ⟨z18, r18, rfl, hl18⟩ := cons_ofW hl17
              obtain ⟨z19, r19, rfl, hl19⟩ := cons_ofW hl18
              obtain ⟨z20, r20, rfl, hl20⟩ := cons_ofW hl19
              obtain ⟨z21, r21, rfl, hl21⟩ := cons_ofW hl20
              obtain ⟨z22, r22, rfl, hl22⟩ := cons_ofW hl21
              obtain ⟨z23, r23, rfl, hl23⟩ := cons_ofW hl22
              obtain ⟨z24, r24, rfl, hl24⟩ := cons_ofW hl23
              obtain ⟨z25, r25, rfl, hl25⟩ := cons_ofW hl24
              obtain ⟨z26, r26, rfl, hl26⟩ := cons_ofW hl25
              obtain ⟨z27, r27, rfl, hl27⟩ := cons_ofW hl26
              obtain ⟨z28, r28, rfl, hl28⟩ := cons_ofW hl27
              obtain ⟨z29, r29, rfl, hl29⟩ := cons_ofW hl28
              obtain ⟨z30, r30, rfl, hl30⟩ := cons_ofW hl29
              obtain ⟨z31, r31, rfl, hl31⟩ := cons_ofW hl30
              obtain ⟨z32, r32, rfl, hl32⟩ := cons_ofW hl31
              obtain ⟨z33, r33, rfl, hl33⟩ := cons_ofW hl32
              obtain ⟨z34, r34, rfl, hl34⟩ := cons_ofW hl33
              obtain ⟨z35, r35, rfl, hl35⟩ := cons_ofW hl34
              obtain ⟨z36, r36, rfl, hl36⟩ := cons_ofW hl35
              obtain ⟨z37, r37, rfl, hl37⟩ := cons_ofW hl36
              obtain ⟨z38, r38, rfl, hl38⟩ := cons_ofW hl37
              obtain ⟨z39, r39, rfl, hl39⟩ := cons_ofW hl38
              obtain ⟨z40, r40, rfl, hl40⟩ := cons_ofW hl39
              obtain ⟨z41, r41, rfl, hl41⟩ := cons_ofW hl40
              obtain ⟨z42, r42, rfl, hl42⟩ := cons_ofW hl41
              obtain ⟨z43, r43, rfl, hl43⟩ := cons_ofW hl42
              obtain ⟨z44, r44, rfl, hl44⟩ := cons_ofW hl43
              obtain ⟨z45, r45, rfl, hl45⟩ := cons_ofW hl44
              obtain rfl := List.length_eq_zero_iff.1 hl45
              exact ⟨z0, z1, z2, z3, z4, z5, z6, z7, z8, z9, z10, z11, z12, z13, z14, z15, z16, z17, z18, z19, z20, z21, z22, z23, z24, z25, z26, z27, z28, z29, z30, z31, z32, z33, z34, z35, z36, z37, z38, z39, z40, z41, z42, z43, z44, z45, rfl⟩
            obtain rfl : z45 = .bool true := h45
            have B5 : Hid (Below w.heap.size w w5) := HB0.out.trans (b5.mono HB0.out.size)
            obtain ⟨x0, x1, x2, x3, x4, x5, x6⟩ := evat (row_stays HR.out b5)
            simp only [regR3_5_ds, putAll, List.setIfInBounds_toArray, List.set_cons_succ, List.set_cons_zero]
            clear HYES HNO hu b5 HNM HBR HNB HEB HR HB0
            subst hRf
            go_wp2_with fail
            go_ret
            exact ⟨rfl, B5.out⟩
        · have hRf := HNO.out (fun hh => q4 hh.2.2.1)
          refine regR3_4 rfl _ (by simp) W0 g kn kd th tx pl v x why T b0 b1 b2 b3 b4 b5 b6 HKN.out (fun wx h => row_stays HR.out h) (fun wx h => HNM.out wx (HB0.out.trans (h.mono HB0.out.size))) (fun wx _ => HBR.out wx) (nm_full q1.1 q1.2) (decide_eq_false (by omega)) (decide_eq_false (by omega)) (HNB.out q4) rfl rfl ?_
          intro us w5 hu b5 h45
          obtain ⟨z0, z1, z2, z3, z4, z5, z6, z7, z8, z9, z10, z11, z12, z13, z14, z15, z16, z17, z18, z19, z20, z21, z22, z23, z24, z25, z26, z27, z28, z29, z30, z31, z32, z33, z34, z35, z36, z37, z38, z39, z40, z41, z42, z43, z44, z45, rfl⟩ : ∃ z0 z1 z2 z3 z4 z5 z6 z7 z8 z9 z10 z11 z12 z13 z14 z15 z16 z17 z18 z19 z20 z21 z22 z23 z24 z25 z26 z27 z28 z29 z30 z31 z32 z33 z34 z35 z36 z37 z38 z39 z40 z41 z42 z43 z44 z45 : Value, us = [z0, z1, z2, z3, z4, z5, z6, z7, z8, z9, z10, z11, z12, z13, z14, z15, z16, z17, z18, z19, z20, z21, z22, z23, z24, z25, z26, z27, z28, z29, z30, z31, z32, z33, z34, z35, z36, z37, z38, z39, z40, z41, z42, z43, z44, z45] := by
            obtain ⟨z0, r0, rfl, hl0⟩ := cons_ofW hu
            obtain ⟨z1, r1, rfl, hl1⟩ := cons_ofW hl0
            obtain ⟨z2, r2, rfl, hl2⟩ := cons_ofW hl1
            obtain ⟨z3, r3, rfl, hl3⟩ := cons_ofW hl2
            obtain ⟨z4, r4, rfl, hl4⟩ := cons_ofW hl3
            obtain ⟨z5, r5, rfl, hl5⟩ := cons_ofW hl4
            obtain ⟨z6, r6, rfl, hl6⟩ := cons_ofW hl5
            obtain ⟨z7, r7, rfl, hl7⟩ := cons_ofW hl6
            obtain ⟨z8, r8, rfl, hl8⟩ := cons_ofW hl7
            obtain ⟨z9, r9, rfl, hl9⟩ := cons_ofW hl8
            obtain ⟨z10, r10, rfl, hl10⟩ := cons_ofW hl9
            obtain ⟨z11, r11, rfl, hl11⟩ := cons_ofW hl10
            obtain ⟨z12, r12, rfl, hl12⟩ := cons_ofW hl11
            obtain ⟨z13, r13, rfl, hl13⟩ := cons_ofW hl12
            obtain ⟨z14, r14, rfl, hl14⟩ := cons_ofW hl13
            obtain ⟨z15, r15, rfl, hl15⟩ := cons_ofW hl14
            obtain ⟨z16, r16, rfl, hl16⟩ := cons_ofW hl15
            obtain ⟨z17, r17, rfl, hl17⟩ := cons_ofW hl16
            obtain ⟨z18, r18, rfl, hl18⟩ := cons_ofW hl17
            obtain ⟨z19, r19, rfl, hl19⟩ := cons_ofW hl18
            obtain ⟨z20, r20, rfl, hl20⟩ := cons_ofW hl19
            obtain ⟨z21, r21, rfl, hl21⟩ := cons_ofW hl20
            obtain ⟨z22, r22, rfl, hl22⟩ := cons_ofW hl21
            obtain ⟨z23, r23, rfl, hl23⟩ := cons_ofW hl22
            obtain ⟨z24, r24, rfl, hl24⟩ := cons_ofW hl23
            obtain ⟨z25, r25, rfl, hl25⟩ := cons_ofW hl24
            obtain ⟨z26, r26, rfl, hl26⟩ := cons_ofW hl25
            obtain ⟨z27, r27, rfl, hl27⟩ := cons_ofW hl26
            obtain ⟨z28, r28, rfl, hl28⟩ := cons_ofW hl27
            obtain ⟨z29, r29, rfl, hl29⟩ := cons_ofW hl28
            obtain ⟨z30, r30, rfl, hl30⟩ := cons_ofW hl29
            obtain ⟨z31, r31, rfl, hl31⟩ := cons_ofW hl30
            obtain ⟨z32, r32, rfl, hl32⟩ := cons_ofW hl31
            obtain ⟨z33, r33, rfl, hl33⟩ := cons_ofW hl32
            obtain ⟨z34, r34, rfl, hl34⟩ := cons_ofW hl33
            obtain ⟨z35, r35, rfl, hl35⟩ := cons_ofW hl34
            obtain ⟨z36, r36, rfl, hl36⟩ := cons_ofW hl35
            obtain ⟨z37, r37, rfl, hl37⟩ := cons_ofW hl36
            obtain ⟨z38, r38, rfl, hl38⟩ := cons_ofW hl37
            obtain ⟨z39, r39, rfl, hl39⟩ := cons_ofW hl38
            obtain ⟨z40, r40, rfl, hl40⟩ := cons_ofW hl39
            obtain ⟨z41, r41, rfl, hl41⟩ := cons_ofW hl40
            obtain ⟨z42, r42, rfl, hl42⟩ := cons_ofW hl41
            obtain ⟨z43, r43, rfl, hl43⟩ := cons_ofW hl42
            obtain ⟨z44, r44, rfl, hl44⟩ := cons_ofW hl43
            obtain ⟨z45, r45, rfl, hl45⟩ := cons_ofW hl44
            obtain rfl := List.length_eq_zero_iff.1 hl45
            exact ⟨z0, z1, z2, z3, z4, z5, z6, z7, z8, z9, z10, z11, z12, z13, z14, z15, z16, z17, z18, z19, z20, z21, z22, z23, z24, z25, z26, z27, z28, z29, z30, z31, z32, z33, z34, z35, z36, z37, z38, z39, z40, z41, z42, z43, z44, z45, rfl⟩
          obtain rfl : z45 = .bool true := h45
          have B5 : Hid (Below w.heap.size w w5) := HB0.out.trans (b5.mono HB0.out.size)
          obtain ⟨x0, x1, x2, x3, x4, x5, x6⟩ := evat (row_stays HR.out b5)
          simp only [regR3_4_ds, putAll, List.setIfInBounds_toArray, List.set_cons_succ, List.set_cons_zero]
          clear HYES HNO hu b5 HNM HBR HNB HEB HR HB0
          subst hRf
          go_wp2_with fail
          go_ret
          exact ⟨rfl, B5.out⟩
      · have hRf := HNO.out (fun hh => q3 (by omega))
        refine regR3_3 rfl _ (by simp) W0 g kn kd th tx pl v x why T b0 b1 b2 b3 b4 b5 b6 HKN.out (fun wx h => row_stays HR.out h) (fun wx h => HNM.out wx (HB0.out.trans (h.mono HB0.out.size))) (fun wx _ => HBR.out wx) (nm_full q1.1 q1.2) (decide_eq_false (by omega)) (decide_eq_true (by omega)) rfl rfl ?_
        intro us w5 hu b5 h45
        obtain ⟨z0, z1, z2, z3, z4, z5, z6, z7, z8, z9, z10, z11, z12, z13, z14, z15, z16, z17, z18, z19, z20, z21, z22, z23, z24, z25, z26, z27, z28, z29, z30, z31, z32, z33, z34, z35, z36, z37, z38, z39, z40, z41, z42, z43, z44, z45, rfl⟩ : ∃ z0 z1 z2 z3 z4 z5 z6 z7 z8 z9 z10 z11 z12 z13 z14 z15 z16 z17 z18 z19 z20 z21 z22 z23 z24 z25 z26 z27 z28 z29 z30 z31 z32 z33 z34 z35 z36 z37 z38 z39 z40 z41 z42 z43 z44 z45 : Value, us = [z0, z1, z2, z3, z4, z5, z6, z7, z8, z9, z10, z11, z12, z13, z14, z15, z16, z17, z18, z19, z20, z21, z22, z23, z24, z25, z26, z27, z28, z29, z30, z31, z32, z33, z34, z35, z36, z37, z38, z39, z40, z41, z42, z43, z44, z45] := by
          obtain ⟨z0, r0, rfl, hl0⟩ := cons_ofW hu
          obtain ⟨z1, r1, rfl, hl1⟩ := cons_ofW hl0
          obtain ⟨z2, r2, rfl, hl2⟩ := cons_ofW hl1
          obtain ⟨z3, r3, rfl, hl3⟩ := cons_ofW hl2
          obtain ⟨z4, r4, rfl, hl4⟩ := cons_ofW hl3
          obtain ⟨z5, r5, rfl, hl5⟩ := cons_ofW hl4
          obtain ⟨z6, r6, rfl, hl6⟩ := cons_ofW hl5
          obtain ⟨z7, r7, rfl, hl7⟩ := cons_ofW hl6
          obtain ⟨z8, r8, rfl, hl8⟩ := cons_ofW hl7
          obtain ⟨z9, r9, rfl, hl9⟩ := cons_ofW hl8
          obtain ⟨z10, r10, rfl, hl10⟩ := cons_ofW hl9
          obtain ⟨z11, r11, rfl, hl11⟩ := cons_ofW hl10
          obtain ⟨z12, r12, rfl, hl12⟩ := cons_ofW hl11
          obtain ⟨z13, r13, rfl, hl13⟩ := cons_ofW hl12
          obtain ⟨z14, r14, rfl, hl14⟩ := cons_ofW hl13
          obtain ⟨z15, r15, rfl, hl15⟩ := cons_ofW hl14
          obtain ⟨z16, r16, rfl, hl16⟩ := cons_ofW hl15
          obtain ⟨z17, r17, rfl, hl17⟩ := cons_ofW hl16
          obtain ⟨z18, r18, rfl, hl18⟩ := cons_ofW hl17
          obtain ⟨z19, r19, rfl, hl19⟩ := cons_ofW hl18
          obtain ⟨z20, r20, rfl, hl20⟩ := cons_ofW hl19
          obtain ⟨z21, r21, rfl, hl21⟩ := cons_ofW hl20
          obtain ⟨z22, r22, rfl, hl22⟩ := cons_ofW hl21
          obtain ⟨z23, r23, rfl, hl23⟩ := cons_ofW hl22
          obtain ⟨z24, r24, rfl, hl24⟩ := cons_ofW hl23
          obtain ⟨z25, r25, rfl, hl25⟩ := cons_ofW hl24
          obtain ⟨z26, r26, rfl, hl26⟩ := cons_ofW hl25
          obtain ⟨z27, r27, rfl, hl27⟩ := cons_ofW hl26
          obtain ⟨z28, r28, rfl, hl28⟩ := cons_ofW hl27
          obtain ⟨z29, r29, rfl, hl29⟩ := cons_ofW hl28
          obtain ⟨z30, r30, rfl, hl30⟩ := cons_ofW hl29
          obtain ⟨z31, r31, rfl, hl31⟩ := cons_ofW hl30
          obtain ⟨z32, r32, rfl, hl32⟩ := cons_ofW hl31
          obtain ⟨z33, r33, rfl, hl33⟩ := cons_ofW hl32
          obtain ⟨z34, r34, rfl, hl34⟩ := cons_ofW hl33
          obtain ⟨z35, r35, rfl, hl35⟩ := cons_ofW hl34
          obtain ⟨z36, r36, rfl, hl36⟩ := cons_ofW hl35
          obtain ⟨z37, r37, rfl, hl37⟩ := cons_ofW hl36
          obtain ⟨z38, r38, rfl, hl38⟩ := cons_ofW hl37
          obtain ⟨z39, r39, rfl, hl39⟩ := cons_ofW hl38
          obtain ⟨z40, r40, rfl, hl40⟩ := cons_ofW hl39
          obtain ⟨z41, r41, rfl, hl41⟩ := cons_ofW hl40
          obtain ⟨z42, r42, rfl, hl42⟩ := cons_ofW hl41
          obtain ⟨z43, r43, rfl, hl43⟩ := cons_ofW hl42
          obtain ⟨z44, r44, rfl, hl44⟩ := cons_ofW hl43
          obtain ⟨z45, r45, rfl, hl45⟩ := cons_ofW hl44
          obtain rfl := List.length_eq_zero_iff.1 hl45
          exact ⟨z0, z1, z2, z3, z4, z5, z6, z7, z8, z9, z10, z11, z12, z13, z14, z15, z16, z17, z18, z19, z20, z21, z22, z23, z24, z25, z26, z27, z28, z29, z30, z31, z32, z33, z34, z35, z36, z37, z38, z39, z40, z41, z42, z43, z44, z45, rfl⟩
        obtain rfl : z45 = .bool true := h45
        have B5 : Hid (Below w.heap.size w w5) := HB0.out.trans (b5.mono HB0.out.size)
        obtain ⟨x0, x1, x2, x3, x4, x5, x6⟩ := evat (row_stays HR.out b5)
        simp only [regR3_3_ds, putAll, List.setIfInBounds_toArray, List.set_cons_succ, List.set_cons_zero]
        clear HYES HNO hu b5 HNM HBR HNB HEB HR HB0
        subst hRf
        go_wp2_with fail
        go_ret
        exact ⟨rfl, B5.out⟩
    · have hRf := HNO.out (fun hh => q2 (by omega))
      refine regR3_2 rfl _ (by simp) W0 g kn kd th tx pl v x why T b0 b1 b2 b3 b4 b5 b6 HKN.out (fun wx h => row_stays HR.out h) (fun wx h => HNM.out wx (HB0.out.trans (h.mono HB0.out.size))) (fun wx _ => HBR.out wx) (nm_full q1.1 q1.2) (decide_eq_true (by omega)) rfl rfl ?_
      intro us w5 hu b5 h45
      obtain ⟨z0, z1, z2, z3, z4, z5, z6, z7, z8, z9, z10, z11, z12, z13, z14, z15, z16, z17, z18, z19, z20, z21, z22, z23, z24, z25, z26, z27, z28, z29, z30, z31, z32, z33, z34, z35, z36, z37, z38, z39, z40, z41, z42, z43, z44, z45, rfl⟩ : ∃ z0 z1 z2 z3 z4 z5 z6 z7 z8 z9 z10 z11 z12 z13 z14 z15 z16 z17 z18 z19 z20 z21 z22 z23 z24 z25 z26 z27 z28 z29 z30 z31 z32 z33 z34 z35 z36 z37 z38 z39 z40 z41 z42 z43 z44 z45 : Value, us = [z0, z1, z2, z3, z4, z5, z6, z7, z8, z9, z10, z11, z12, z13, z14, z15, z16, z17, z18, z19, z20, z21, z22, z23, z24, z25, z26, z27, z28, z29, z30, z31, z32, z33, z34, z35, z36, z37, z38, z39, z40, z41, z42, z43, z44, z45] := by
        obtain ⟨z0, r0, rfl, hl0⟩ := cons_ofW hu
        obtain ⟨z1, r1, rfl, hl1⟩ := cons_ofW hl0
        obtain ⟨z2, r2, rfl, hl2⟩ := cons_ofW hl1
        obtain ⟨z3, r3, rfl, hl3⟩ := cons_ofW hl2
        obtain ⟨z4, r4, rfl, hl4⟩ := cons_ofW hl3
        obtain ⟨z5, r5, rfl, hl5⟩ := cons_ofW hl4
        obtain ⟨z6, r6, rfl, hl6⟩ := cons_ofW hl5
        obtain ⟨z7, r7, rfl, hl7⟩ := cons_ofW hl6
        obtain ⟨z8, r8, rfl, hl8⟩ := cons_ofW hl7
        obtain ⟨z9, r9, rfl, hl9⟩ := cons_ofW hl8
        obtain ⟨z10, r10, rfl, hl10⟩ := cons_ofW hl9
        obtain ⟨z11, r11, rfl, hl11⟩ := cons_ofW hl10
        obtain ⟨z12, r12, rfl, hl12⟩ := cons_ofW hl11
        obtain ⟨z13, r13, rfl, hl13⟩ := cons_ofW hl12
        obtain ⟨z14, r14, rfl, hl14⟩ := cons_ofW hl13
        obtain ⟨z15, r15, rfl, hl15⟩ := cons_ofW hl14
        obtain ⟨z16, r16, rfl, hl16⟩ := cons_ofW hl15
        obtain ⟨z17, r17, rfl, hl17⟩ := cons_ofW hl16
        obtain ⟨z18, r18, rfl, hl18⟩ := cons_ofW hl17
        obtain ⟨z19, r19, rfl, hl19⟩ := cons_ofW hl18
        obtain ⟨z20, r20, rfl, hl20⟩ := cons_ofW hl19
        obtain ⟨z21, r21, rfl, hl21⟩ := cons_ofW hl20
        obtain ⟨z22, r22, rfl, hl22⟩ := cons_ofW hl21
        obtain ⟨z23, r23, rfl, hl23⟩ := cons_ofW hl22
        obtain ⟨z24, r24, rfl, hl24⟩ := cons_ofW hl23
        obtain ⟨z25, r25, rfl, hl25⟩ := cons_ofW hl24
        obtain ⟨z26, r26, rfl, hl26⟩ := cons_ofW hl25
        obtain ⟨z27, r27, rfl, hl27⟩ := cons_ofW hl26
        obtain ⟨z28, r28, rfl, hl28⟩ := cons_ofW hl27
        obtain ⟨z29, r29, rfl, hl29⟩ := cons_ofW hl28
        obtain ⟨z30, r30, rfl, hl30⟩ := cons_ofW hl29
        obtain ⟨z31, r31, rfl, hl31⟩ := cons_ofW hl30
        obtain ⟨z32, r32, rfl, hl32⟩ := cons_ofW hl31
        obtain ⟨z33, r33, rfl, hl33⟩ := cons_ofW hl32
        obtain ⟨z34, r34, rfl, hl34⟩ := cons_ofW hl33
        obtain ⟨z35, r35, rfl, hl35⟩ := cons_ofW hl34
        obtain ⟨z36, r36, rfl, hl36⟩ := cons_ofW hl35
        obtain ⟨z37, r37, rfl, hl37⟩ := cons_ofW hl36
        obtain ⟨z38, r38, rfl, hl38⟩ := cons_ofW hl37
        obtain ⟨z39, r39, rfl, hl39⟩ := cons_ofW hl38
        obtain ⟨z40, r40, rfl, hl40⟩ := cons_ofW hl39
        obtain ⟨z41, r41, rfl, hl41⟩ := cons_ofW hl40
        obtain ⟨z42, r42, rfl, hl42⟩ := cons_ofW hl41
        obtain ⟨z43, r43, rfl, hl43⟩ := cons_ofW hl42
        obtain ⟨z44, r44, rfl, hl44⟩ := cons_ofW hl43
        obtain ⟨z45, r45, rfl, hl45⟩ := cons_ofW hl44
        obtain rfl := List.length_eq_zero_iff.1 hl45
        exact ⟨z0, z1, z2, z3, z4, z5, z6, z7, z8, z9, z10, z11, z12, z13, z14, z15, z16, z17, z18, z19, z20, z21, z22, z23, z24, z25, z26, z27, z28, z29, z30, z31, z32, z33, z34, z35, z36, z37, z38, z39, z40, z41, z42, z43, z44, z45, rfl⟩
      obtain rfl : z45 = .bool true := h45
      have B5 : Hid (Below w.heap.size w w5) := HB0.out.trans (b5.mono HB0.out.size)
      obtain ⟨x0, x1, x2, x3, x4, x5, x6⟩ := evat (row_stays HR.out b5)
      simp only [regR3_2_ds, putAll, List.setIfInBounds_toArray, List.set_cons_succ, List.set_cons_zero]
      clear HYES HNO hu b5 HNM HBR HNB HEB HR HB0
      subst hRf
      go_wp2_with fail
      go_ret
      exact ⟨rfl, B5.out⟩
  · have hRf := HNO.out (fun hh => q1 ⟨by have := HKN.out; have := hh.1; omega, by have := HKN.out; have := hh.1; omega⟩)
    refine regR3_1 rfl _ (by simp) W0 g kn kd th tx pl v x why T b0 b1 b2 b3 b4 b5 b6 HKN.out (fun wx h => row_stays HR.out h) (fun wx h => HNM.out wx (HB0.out.trans (h.mono HB0.out.size))) (fun wx _ => HBR.out wx) (nm_none q1) rfl rfl ?_
    intro us w5 hu b5 h45
    obtain ⟨z0, z1, z2, z3, z4, z5, z6, z7, z8, z9, z10, z11, z12, z13, z14, z15, z16, z17, z18, z19, z20, z21, z22, z23, z24, z25, z26, z27, z28, z29, z30, z31, z32, z33, z34, z35, z36, z37, z38, z39, z40, z41, z42, z43, z44, z45, rfl⟩ : ∃ z0 z1 z2 z3 z4 z5 z6 z7 z8 z9 z10 z11 z12 z13 z14 z15 z16 z17 z18 z19 z20 z21 z22 z23 z24 z25 z26 z27 z28 z29 z30 z31 z32 z33 z34 z35 z36 z37 z38 z39 z40 z41 z42 z43 z44 z45 : Value, us = [z0, z1, z2, z3, z4, z5, z6, z7, z8, z9, z10, z11, z12, z13, z14, z15, z16, z17, z18, z19, z20, z21, z22, z23, z24, z25, z26, z27, z28, z29, z30, z31, z32, z33, z34, z35, z36, z37, z38, z39, z40, z41, z42, z43, z44, z45] := by
      obtain ⟨z0, r0, rfl, hl0⟩ := cons_ofW hu
      obtain ⟨z1, r1, rfl, hl1⟩ := cons_ofW hl0
      obtain ⟨z2, r2, rfl, hl2⟩ := cons_ofW hl1
      obtain ⟨z3, r3, rfl, hl3⟩ := cons_ofW hl2
      obtain ⟨z4, r4, rfl, hl4⟩ := cons_ofW hl3
      obtain ⟨z5, r5, rfl, hl5⟩ := cons_ofW hl4
      obtain ⟨z6, r6, rfl, hl6⟩ := cons_ofW hl5
      obtain ⟨z7, r7, rfl, hl7⟩ := cons_ofW hl6
      obtain ⟨z8, r8, rfl, hl8⟩ := cons_ofW hl7
      obtain ⟨z9, r9, rfl, hl9⟩ := cons_ofW hl8
      obtain ⟨z10, r10, rfl, hl10⟩ := cons_ofW hl9
      obtain ⟨z11, r11, rfl, hl11⟩ := cons_ofW hl10
      obtain ⟨z12, r12, rfl, hl12⟩ := cons_ofW hl11
      obtain ⟨z13, r13, rfl, hl13⟩ := cons_ofW hl12
      obtain ⟨z14, r14, rfl, hl14⟩ := cons_ofW hl13
      obtain ⟨z15, r15, rfl, hl15⟩ := cons_ofW hl14
      obtain ⟨z16, r16, rfl, hl16⟩ := cons_ofW hl15
      obtain ⟨z17, r17, rfl, hl17⟩ := cons_ofW hl16
      obtain ⟨z18, r18, rfl, hl18⟩ := cons_ofW hl17
      obtain ⟨z19, r19, rfl, hl19⟩ := cons_ofW hl18
      obtain ⟨z20, r20, rfl, hl20⟩ := cons_ofW hl19
      obtain ⟨z21, r21, rfl, hl21⟩ := cons_ofW hl20
      obtain ⟨z22, r22, rfl, hl22⟩ := cons_ofW hl21
      obtain ⟨z23, r23, rfl, hl23⟩ := cons_ofW hl22
      obtain ⟨z24, r24, rfl, hl24⟩ := cons_ofW hl23
      obtain ⟨z25, r25, rfl, hl25⟩ := cons_ofW hl24
      obtain ⟨z26, r26, rfl, hl26⟩ := cons_ofW hl25
      obtain ⟨z27, r27, rfl, hl27⟩ := cons_ofW hl26
      obtain ⟨z28, r28, rfl, hl28⟩ := cons_ofW hl27
      obtain ⟨z29, r29, rfl, hl29⟩ := cons_ofW hl28
      obtain ⟨z30, r30, rfl, hl30⟩ := cons_ofW hl29
      obtain ⟨z31, r31, rfl, hl31⟩ := cons_ofW hl30
      obtain ⟨z32, r32, rfl, hl32⟩ := cons_ofW hl31
      obtain ⟨z33, r33, rfl, hl33⟩ := cons_ofW hl32
      obtain ⟨z34, r34, rfl, hl34⟩ := cons_ofW hl33
      obtain ⟨z35, r35, rfl, hl35⟩ := cons_ofW hl34
      obtain ⟨z36, r36, rfl, hl36⟩ := cons_ofW hl35
      obtain ⟨z37, r37, rfl, hl37⟩ := cons_ofW hl36
      obtain ⟨z38, r38, rfl, hl38⟩ := cons_ofW hl37
      obtain ⟨z39, r39, rfl, hl39⟩ := cons_ofW hl38
      obtain ⟨z40, r40, rfl, hl40⟩ := cons_ofW hl39
      obtain ⟨z41, r41, rfl, hl41⟩ := cons_ofW hl40
      obtain ⟨z42, r42, rfl, hl42⟩ := cons_ofW hl41
      obtain ⟨z43, r43, rfl, hl43⟩ := cons_ofW hl42
      obtain ⟨z44, r44, rfl, hl44⟩ := cons_ofW hl43
      obtain ⟨z45, r45, rfl, hl45⟩ := cons_ofW hl44
      obtain rfl := List.length_eq_zero_iff.1 hl45
      exact ⟨z0, z1, z2, z3, z4, z5, z6, z7, z8, z9, z10, z11, z12, z13, z14, z15, z16, z17, z18, z19, z20, z21, z22, z23, z24, z25, z26, z27, z28, z29, z30, z31, z32, z33, z34, z35, z36, z37, z38, z39, z40, z41, z42, z43, z44, z45, rfl⟩
    obtain rfl : z45 = .bool true := h45
    have B5 : Hid (Below w.heap.size w w5) := HB0.out.trans (b5.mono HB0.out.size)
    obtain ⟨x0, x1, x2, x3, x4, x5, x6⟩ := evat (row_stays HR.out b5)
    simp only [regR3_1_ds, putAll, List.setIfInBounds_toArray, List.set_cons_succ, List.set_cons_zero]
    clear HYES HNO hu b5 HNM HBR HNB HEB HR HB0
    subst hRf
    go_wp2_with fail
    go_ret
    exact ⟨rfl, B5.out⟩
theorem rmay_any (e : Ev) (ok : EvOk e) (T V S : Int) (w : World) (he : Er w) :
    Calls Tryd.prog 48 #[evV e, .int .i64 T, .int .i64 V, .int .i64 S] w fun r w' => r = .returned (.bool (mayB e T V S)) ∧ Below w.heap.size w w' := by
  by_cases h : 1 ≤ T ∧ T ≤ 6 ∧ 1 ≤ V ∧ V ≤ 32 ∧ 1 ≤ S ∧ S ≤ V
  · exact rmay_yes e ok T V S h w he
  · rw [show mayB e T V S = false from Bool.eq_false_iff.2 fun hm => h (may_need hm).1]
    exact rmay_no e T V S h w
end Go.Proofs.YtkfcglgikemefaaDoor
