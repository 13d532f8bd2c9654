/-
  CONTRACT OF seesawref12.bare: an event with what its Kind has alone. Conditions: as they stand.
-/
import Derived.Test.YtfbnigikofidoaaDoorWx
import Derived.Test.YtfbnigikofidoaaDoorWt
import Derived.BigRegion
import Derived.Deep.DeepCutAuto
namespace Go.Proofs.YtfbnigikofidoaaDoor
set_option maxRecDepth 100000
open Go.RowKit
set_option linter.unusedVariables false
def bareF (e : Ev) : Ev :=
  if e.kd = 1 then ⟨e.kd, e.th, e.tx, 0, e.v, 0, 0⟩
  else if e.kd = 2 then ⟨e.kd, e.th, 0, e.pl, e.v, 0, 0⟩
  else if e.kd = 3 ∨ e.kd = 8 then ⟨e.kd, e.th, 0, e.pl, 0, e.x, 0⟩
  else if e.kd = 4 ∨ e.kd = 6 ∨ e.kd = 9 ∨ e.kd = 11 then ⟨e.kd, e.th, 0, e.pl, 0, 0, 0⟩
  else if e.kd = 5 ∨ e.kd = 7 then ⟨e.kd, e.th, 0, 0, e.v, 0, 0⟩
  else if e.kd = 10 then ⟨e.kd, e.th, 0, e.pl, 0, 0, e.why⟩
  else ⟨e.kd, e.th, 0, 0, 0, 0, 0⟩
/-- The three boxes. -/
structure BoxB (w : World) (B g1 g2 g3 : Nat) (cs ds : Array Value) (W : World) : Prop where
  l1 : B ≤ g1
  l2 : B ≤ g2
  l3 : B ≤ g3
  h1 : g1 < g2
  h2 : g2 < g3
  r1 : W.heap[g1]? = some (.cells cs 23 (0, 0))
  r2 : W.heap[g2]? = some (.cells #[.int .u8 0, .int .i64 0, .int .i64 0, .int .i64 0, .int .i64 0, .int .i64 0, .int .u8 0] 23 (0, 0))
  r3 : W.heap[g3]? = some (.cells ds 23 (0, 0))
  low : Below B w W
theorem boxB_set {w W : World} {B g1 g2 g3 : Nat} {cs ds : Array Value} (h : BoxB w B g1 g2 g3 cs ds W) (i : Nat) (v : Value) : BoxB w B g1 g2 g3 cs (ds.setIfInBounds i v) (W.setCell ⟨g3, i, none⟩ v) :=
  have := h.h1
  have := h.h2
  ⟨h.l1, h.l2, h.l3, h.h1, h.h2, (heap_setCell_other W _ _ _ (by show g1 ≠ g3; omega)).trans h.r1, (heap_setCell_other W _ _ _ (by show g2 ≠ g3; omega)).trans h.r2, heap_setCell_same W g3 i _ _ _ h.r3, h.low.setCell h.l3 _⟩
theorem boxB_drew {w W : World} {B g1 g2 g3 : Nat} {cs ds : Array Value} (h : BoxB w B g1 g2 g3 cs ds W) : BoxB w B g1 g2 g3 cs ds W.drew := ⟨h.l1, h.l2, h.l3, h.h1, h.h2, h.r1, h.r2, h.r3, h.low.drew⟩
def sevenB (w : World) (g : Nat) (a b c d e f k : Value) : World := ((((((w.setCell ⟨g, 0, none⟩ a).setCell ⟨g, 1, none⟩ b).setCell ⟨g, 2, none⟩ c).setCell ⟨g, 3, none⟩ d).setCell ⟨g, 4, none⟩ e).setCell ⟨g, 5, none⟩ f).setCell ⟨g, 6, none⟩ k
theorem seven_row (w : World) (g : Nat) (a b c d e f k : Value) {a0 b0 c0 d0 e0 f0 k0 : Value} {t : TypeId} (h : w.heap[g]? = some (.cells #[a0, b0, c0, d0, e0, f0, k0] t (0, 0))) : (sevenB w g a b c d e f k).heap[g]? = some (.cells #[a, b, c, d, e, f, k] t (0, 0)) := by
  have h0 := heap_setCell_same w g 0 _ _ a h
  have h1 := heap_setCell_same _ g 1 _ _ b h0
  have h2 := heap_setCell_same _ g 2 _ _ c h1
  have h3 := heap_setCell_same _ g 3 _ _ d h2
  have h4 := heap_setCell_same _ g 4 _ _ e h3
  have h5 := heap_setCell_same _ g 5 _ _ f h4
  have h6 := heap_setCell_same _ g 6 _ _ k h5
  simpa [sevenB] using h6
theorem results_c1 {P : Program} {fn : Func} {p : Tmp} {ty : TypeId} (h : fn.results = #[.cell p ty]) (tmps : Array Value) (w : World) (g : Nat) (t : TypeId) (cs : Array Value) (fr : Nat × Nat) (d : TypeDesc)
    (hp : tmps.getD p undef = .pointer (some ⟨g, 0, none⟩)) (hg : w.heap[g]? = some (.cells cs t fr))
    (hu : P.underlying ty = some d) (hd : (match d with | .struct _ | .array _ _ => true | _ => false) = true) (hi : (P.info? ty).map (·.size) = some cs.size) :
    (results fn tmps).run P w = .ok (.agg cs) w := by
  have hp' : tmps[p]?.getD undef = .pointer (some ⟨g, 0, none⟩) := by simpa using hp
  simp [results, h, hp', asAddr, run_loadVar_row w g t ty cs fr d hg hu hd hi]
theorem seven_below {B : Nat} {w0 w : World} {g : Nat} (h : Below B w0 w) (hg : B ≤ g) (a b c d e f k : Value) : Below B w0 (sevenB w g a b c d e f k) :=
  ((((((h.setCell (p := ⟨g, 0, none⟩) hg _).setCell (p := ⟨g, 1, none⟩) hg _).setCell (p := ⟨g, 2, none⟩) hg _).setCell (p := ⟨g, 3, none⟩) hg _).setCell (p := ⟨g, 4, none⟩) hg _).setCell (p := ⟨g, 5, none⟩) hg _).setCell (p := ⟨g, 6, none⟩) hg _
set_option maxHeartbeats 4000000 in
theorem rbare_any (e : Ev) (w : World) :
    Calls Tryd.prog 39 #[evV e] w fun r w' => r = .returned (evV (bareF e)) ∧ Below w.heap.size w w' := by
  obtain ⟨kd, th, tx, pl, v, x, why⟩ := e
  obtain ⟨R, hR⟩ : ∃ R, R = evV (bareF ⟨kd, th, tx, pl, v, x, why⟩) := ⟨_, rfl⟩
  rw [← hR]
  unfold evV
  simp only
  go_enter Tryd.func39, Tryd.ntmps39
  go_upto_region 2 with fail
  obtain ⟨W0, hW0⟩ : ∃ W0, W0 = ((w.alloc (.cells #[.int .u8 kd, .int .i64 th, .int .i64 tx, .int .i64 pl, .int .i64 v, .int .i64 x, .int .u8 why] 23)).alloc (.cells #[.int .u8 0, .int .i64 0, .int .i64 0, .int .i64 0, .int .i64 0, .int .i64 0, .int .u8 0] 23)).alloc (.cells #[.int .u8 kd, .int .i64 th, .int .i64 0, .int .i64 0, .int .i64 0, .int .i64 0, .int .u8 0] 23) := ⟨_, rfl⟩
  obtain ⟨g1, hg1⟩ : ∃ g, g = w.heap.size := ⟨_, rfl⟩
  obtain ⟨g2, hg2⟩ : ∃ g, g = w.heap.size + 1 := ⟨_, rfl⟩
  obtain ⟨g3, hg3⟩ : ∃ g, g = w.heap.size + 1 + 1 := ⟨_, rfl⟩
  have hB : Hid (BoxB w w.heap.size g1 g2 g3 #[.int .u8 kd, .int .i64 th, .int .i64 tx, .int .i64 pl, .int .i64 v, .int .i64 x, .int .u8 why] #[.int .u8 kd, .int .i64 th, .int .i64 0, .int .i64 0, .int .i64 0, .int .i64 0, .int .u8 0] W0) := by
    have z2 : ((w.alloc (.cells #[.int .u8 kd, .int .i64 th, .int .i64 tx, .int .i64 pl, .int .i64 v, .int .i64 x, .int .u8 why] 23)).alloc (.cells #[.int .u8 0, .int .i64 0, .int .i64 0, .int .i64 0, .int .i64 0, .int .i64 0, .int .u8 0] 23)).heap.size = w.heap.size + 1 + 1 := by simp
    show BoxB _ _ _ _ _ _ _ _
    rw [hW0, hg1, hg2, hg3]
    exact ⟨Nat.le_refl _, by omega, by omega, by omega, by omega, (heap_alloc_old _ _ (by omega)).trans ((heap_alloc_old _ _ (by simp)).trans (heap_alloc_new w _)), (heap_alloc_old _ _ (by omega)).trans (heap_alloc2_new w _ _), z2 ▸ heap_alloc_new _ _, (((Below.refl _ _).alloc (Nat.le_refl _) _).alloc (by simp) _).alloc (by rw [z2]; omega) _⟩
  rw [← hW0, ← hg3, ← hg2, ← hg1]
  clear hW0 hg1 hg2 hg3
  obtain ⟨x0, x1, x2, x3, x4, x5, x6⟩ := evat hB.out.r1
  by_cases k1 : kd = 1
  · subst k1
    have y2 : W0.cell? ⟨g3, 2, none⟩ = some (.int .i64 0) := cell_of_row W0 g3 2 _ _ _ hB.out.r3
    have f2 : W0.frozen? ⟨g3, 2, none⟩ = false := frozen_of_row W0 g3 2 _ _ hB.out.r3
    have y4 : W0.cell? ⟨g3, 4, none⟩ = some (.int .i64 0) := cell_of_row W0 g3 4 _ _ _ hB.out.r3
    have f4 : W0.frozen? ⟨g3, 4, none⟩ = false := frozen_of_row W0 g3 4 _ _ hB.out.r3
    have n13 : g1 ≠ g3 := by have := hB.out.h1; have := hB.out.h2; omega
    go_upto_region 4 with fail
    go_region
    go_upto_region 20 with fail
    obtain ⟨wc, hwc⟩ : ∃ wc, wc = ((W0.setCell ⟨g3, 2, none⟩ (.int .i64 tx)).setCell ⟨g3, 4, none⟩ (.int .i64 v)).drew := ⟨_, rfl⟩
    have hC : Hid (BoxB w w.heap.size g1 g2 g3 #[.int .u8 1, .int .i64 th, .int .i64 tx, .int .i64 pl, .int .i64 v, .int .i64 x, .int .u8 why] #[.int .u8 1, .int .i64 th, .int .i64 tx, .int .i64 0, .int .i64 v, .int .i64 0, .int .u8 0] wc) := by rw [hwc]; exact (boxB_drew (boxB_set (boxB_set hB.out 2 _) 4 _))
    rw [← hwc]
    clear hB x0 x1 x2 x3 x4 x5 x6 y2 f2 y4 f4 hwc n13
    obtain ⟨y0, y1, y2, y3, y4, y5, y6⟩ := evat hC.out.r3
    obtain ⟨z0, z1, z2, z3, z4, z5, z6⟩ := evat hC.out.r2
    have fz : ∀ j, wc.frozen? ⟨g2, j, none⟩ = false := fun j => frozen_of_row wc g2 j _ _ hC.out.r2
    have f0 := fz 0
    have f1 := fz 1
    have f2 := fz 2
    have f3 := fz 3
    have f4 := fz 4
    have f5 := fz 5
    have f6 := fz 6
    clear fz
    go_wp2_with fail
    obtain ⟨W8, hW8⟩ : ∃ W8, W8 = sevenB wc g2 (.int .u8 1) (.int .i64 th) (.int .i64 tx) (.int .i64 0) (.int .i64 v) (.int .i64 0) (.int .u8 0) := ⟨_, rfl⟩
    have hw8 := seven_row wc g2 (.int .u8 1) (.int .i64 th) (.int .i64 tx) (.int .i64 0) (.int .i64 v) (.int .i64 0) (.int .u8 0) hC.out.r2
    have hb8 : Below w.heap.size w W8 := by rw [hW8]; exact seven_below hC.out.low hC.out.l2 _ _ _ _ _ _ _
    rw [← hW8] at hw8
    unfold sevenB at hW8
    rw [← hW8]
    clear hW8 y0 y1 y2 y3 y4 y5 y6 z0 z1 z2 z3 z4 z5 z6 f0 f1 f2 f3 f4 f5 f6
    exact bodyPost_ret (v := .agg #[.int .u8 1, .int .i64 th, .int .i64 tx, .int .i64 0, .int .i64 v, .int .i64 0, .int .u8 0]) (results_c1 Tryd.results39 _ W8 g2 23 _ (0, 0) _ rfl hw8 Tryd.underlying23 rfl (by kernel_rfl)) rfl ⟨by rw [hR]; rfl, hb8⟩
  by_cases k2 : kd = 2
  · subst k2
    have y3 : W0.cell? ⟨g3, 3, none⟩ = some (.int .i64 0) := cell_of_row W0 g3 3 _ _ _ hB.out.r3
    have f3 : W0.frozen? ⟨g3, 3, none⟩ = false := frozen_of_row W0 g3 3 _ _ hB.out.r3
    have y4 : W0.cell? ⟨g3, 4, none⟩ = some (.int .i64 0) := cell_of_row W0 g3 4 _ _ _ hB.out.r3
    have f4 : W0.frozen? ⟨g3, 4, none⟩ = false := frozen_of_row W0 g3 4 _ _ hB.out.r3
    have n13 : g1 ≠ g3 := by have := hB.out.h1; have := hB.out.h2; omega
    go_upto_region 6 with fail
    go_region
    go_upto_region 20 with fail
    obtain ⟨wc, hwc⟩ : ∃ wc, wc = ((W0.setCell ⟨g3, 3, none⟩ (.int .i64 pl)).setCell ⟨g3, 4, none⟩ (.int .i64 v)).drew := ⟨_, rfl⟩
    have hC : Hid (BoxB w w.heap.size g1 g2 g3 #[.int .u8 2, .int .i64 th, .int .i64 tx, .int .i64 pl, .int .i64 v, .int .i64 x, .int .u8 why] #[.int .u8 2, .int .i64 th, .int .i64 0, .int .i64 pl, .int .i64 v, .int .i64 0, .int .u8 0] wc) := by rw [hwc]; exact (boxB_drew (boxB_set (boxB_set hB.out 3 _) 4 _))
    rw [← hwc]
    clear hB x0 x1 x2 x3 x4 x5 x6 y3 f3 y4 f4 hwc n13
    obtain ⟨y0, y1, y2, y3, y4, y5, y6⟩ := evat hC.out.r3
    obtain ⟨z0, z1, z2, z3, z4, z5, z6⟩ := evat hC.out.r2
    have fz : ∀ j, wc.frozen? ⟨g2, j, none⟩ = false := fun j => frozen_of_row wc g2 j _ _ hC.out.r2
    have f0 := fz 0
    have f1 := fz 1
    have f2 := fz 2
    have f3 := fz 3
    have f4 := fz 4
    have f5 := fz 5
    have f6 := fz 6
    clear fz
    go_wp2_with fail
    obtain ⟨W8, hW8⟩ : ∃ W8, W8 = sevenB wc g2 (.int .u8 2) (.int .i64 th) (.int .i64 0) (.int .i64 pl) (.int .i64 v) (.int .i64 0) (.int .u8 0) := ⟨_, rfl⟩
    have hw8 := seven_row wc g2 (.int .u8 2) (.int .i64 th) (.int .i64 0) (.int .i64 pl) (.int .i64 v) (.int .i64 0) (.int .u8 0) hC.out.r2
    have hb8 : Below w.heap.size w W8 := by rw [hW8]; exact seven_below hC.out.low hC.out.l2 _ _ _ _ _ _ _
    rw [← hW8] at hw8
    unfold sevenB at hW8
    rw [← hW8]
    clear hW8 y0 y1 y2 y3 y4 y5 y6 z0 z1 z2 z3 z4 z5 z6 f0 f1 f2 f3 f4 f5 f6
    exact bodyPost_ret (v := .agg #[.int .u8 2, .int .i64 th, .int .i64 0, .int .i64 pl, .int .i64 v, .int .i64 0, .int .u8 0]) (results_c1 Tryd.results39 _ W8 g2 23 _ (0, 0) _ rfl hw8 Tryd.underlying23 rfl (by kernel_rfl)) rfl ⟨by rw [hR]; rfl, hb8⟩
  by_cases k3 : kd = 3
  · subst k3
    have y3 : W0.cell? ⟨g3, 3, none⟩ = some (.int .i64 0) := cell_of_row W0 g3 3 _ _ _ hB.out.r3
    have f3 : W0.frozen? ⟨g3, 3, none⟩ = false := frozen_of_row W0 g3 3 _ _ hB.out.r3
    have y5 : W0.cell? ⟨g3, 5, none⟩ = some (.int .i64 0) := cell_of_row W0 g3 5 _ _ _ hB.out.r3
    have f5 : W0.frozen? ⟨g3, 5, none⟩ = false := frozen_of_row W0 g3 5 _ _ hB.out.r3
    have n13 : g1 ≠ g3 := by have := hB.out.h1; have := hB.out.h2; omega
    go_upto_region 9 with fail
    go_region
    go_upto_region 20 with fail
    obtain ⟨wc, hwc⟩ : ∃ wc, wc = ((W0.setCell ⟨g3, 3, none⟩ (.int .i64 pl)).setCell ⟨g3, 5, none⟩ (.int .i64 x)).drew := ⟨_, rfl⟩
    have hC : Hid (BoxB w w.heap.size g1 g2 g3 #[.int .u8 3, .int .i64 th, .int .i64 tx, .int .i64 pl, .int .i64 v, .int .i64 x, .int .u8 why] #[.int .u8 3, .int .i64 th, .int .i64 0, .int .i64 pl, .int .i64 0, .int .i64 x, .int .u8 0] wc) := by rw [hwc]; exact (boxB_drew (boxB_set (boxB_set hB.out 3 _) 5 _))
    rw [← hwc]
    clear hB x0 x1 x2 x3 x4 x5 x6 y3 f3 y5 f5 hwc n13
    obtain ⟨y0, y1, y2, y3, y4, y5, y6⟩ := evat hC.out.r3
    obtain ⟨z0, z1, z2, z3, z4, z5, z6⟩ := evat hC.out.r2
    have fz : ∀ j, wc.frozen? ⟨g2, j, none⟩ = false := fun j => frozen_of_row wc g2 j _ _ hC.out.r2
    have f0 := fz 0
    have f1 := fz 1
    have f2 := fz 2
    have f3 := fz 3
    have f4 := fz 4
    have f5 := fz 5
    have f6 := fz 6
    clear fz
    go_wp2_with fail
    obtain ⟨W8, hW8⟩ : ∃ W8, W8 = sevenB wc g2 (.int .u8 3) (.int .i64 th) (.int .i64 0) (.int .i64 pl) (.int .i64 0) (.int .i64 x) (.int .u8 0) := ⟨_, rfl⟩
    have hw8 := seven_row wc g2 (.int .u8 3) (.int .i64 th) (.int .i64 0) (.int .i64 pl) (.int .i64 0) (.int .i64 x) (.int .u8 0) hC.out.r2
    have hb8 : Below w.heap.size w W8 := by rw [hW8]; exact seven_below hC.out.low hC.out.l2 _ _ _ _ _ _ _
    rw [← hW8] at hw8
    unfold sevenB at hW8
    rw [← hW8]
    clear hW8 y0 y1 y2 y3 y4 y5 y6 z0 z1 z2 z3 z4 z5 z6 f0 f1 f2 f3 f4 f5 f6
    exact bodyPost_ret (v := .agg #[.int .u8 3, .int .i64 th, .int .i64 0, .int .i64 pl, .int .i64 0, .int .i64 x, .int .u8 0]) (results_c1 Tryd.results39 _ W8 g2 23 _ (0, 0) _ rfl hw8 Tryd.underlying23 rfl (by kernel_rfl)) rfl ⟨by rw [hR]; rfl, hb8⟩
  by_cases k8 : kd = 8
  · subst k8
    have y3 : W0.cell? ⟨g3, 3, none⟩ = some (.int .i64 0) := cell_of_row W0 g3 3 _ _ _ hB.out.r3
    have f3 : W0.frozen? ⟨g3, 3, none⟩ = false := frozen_of_row W0 g3 3 _ _ hB.out.r3
    have y5 : W0.cell? ⟨g3, 5, none⟩ = some (.int .i64 0) := cell_of_row W0 g3 5 _ _ _ hB.out.r3
    have f5 : W0.frozen? ⟨g3, 5, none⟩ = false := frozen_of_row W0 g3 5 _ _ hB.out.r3
    have n13 : g1 ≠ g3 := by have := hB.out.h1; have := hB.out.h2; omega
    go_upto_region 9 with fail
    go_region
    go_upto_region 20 with fail
    obtain ⟨wc, hwc⟩ : ∃ wc, wc = ((W0.setCell ⟨g3, 3, none⟩ (.int .i64 pl)).setCell ⟨g3, 5, none⟩ (.int .i64 x)).drew := ⟨_, rfl⟩
    have hC : Hid (BoxB w w.heap.size g1 g2 g3 #[.int .u8 8, .int .i64 th, .int .i64 tx, .int .i64 pl, .int .i64 v, .int .i64 x, .int .u8 why] #[.int .u8 8, .int .i64 th, .int .i64 0, .int .i64 pl, .int .i64 0, .int .i64 x, .int .u8 0] wc) := by rw [hwc]; exact (boxB_drew (boxB_set (boxB_set hB.out 3 _) 5 _))
    rw [← hwc]
    clear hB x0 x1 x2 x3 x4 x5 x6 y3 f3 y5 f5 hwc n13
    obtain ⟨y0, y1, y2, y3, y4, y5, y6⟩ := evat hC.out.r3
    obtain ⟨z0, z1, z2, z3, z4, z5, z6⟩ := evat hC.out.r2
    have fz : ∀ j, wc.frozen? ⟨g2, j, none⟩ = false := fun j => frozen_of_row wc g2 j _ _ hC.out.r2
    have f0 := fz 0
    have f1 := fz 1
    have f2 := fz 2
    have f3 := fz 3
    have f4 := fz 4
    have f5 := fz 5
    have f6 := fz 6
    clear fz
    go_wp2_with fail
    obtain ⟨W8, hW8⟩ : ∃ W8, W8 = sevenB wc g2 (.int .u8 8) (.int .i64 th) (.int .i64 0) (.int .i64 pl) (.int .i64 0) (.int .i64 x) (.int .u8 0) := ⟨_, rfl⟩
    have hw8 := seven_row wc g2 (.int .u8 8) (.int .i64 th) (.int .i64 0) (.int .i64 pl) (.int .i64 0) (.int .i64 x) (.int .u8 0) hC.out.r2
    have hb8 : Below w.heap.size w W8 := by rw [hW8]; exact seven_below hC.out.low hC.out.l2 _ _ _ _ _ _ _
    rw [← hW8] at hw8
    unfold sevenB at hW8
    rw [← hW8]
    clear hW8 y0 y1 y2 y3 y4 y5 y6 z0 z1 z2 z3 z4 z5 z6 f0 f1 f2 f3 f4 f5 f6
    exact bodyPost_ret (v := .agg #[.int .u8 8, .int .i64 th, .int .i64 0, .int .i64 pl, .int .i64 0, .int .i64 x, .int .u8 0]) (results_c1 Tryd.results39 _ W8 g2 23 _ (0, 0) _ rfl hw8 Tryd.underlying23 rfl (by kernel_rfl)) rfl ⟨by rw [hR]; rfl, hb8⟩
  by_cases k10 : kd = 10
  · subst k10
    have y6 : W0.cell? ⟨g3, 6, none⟩ = some (.int .u8 0) := cell_of_row W0 g3 6 _ _ _ hB.out.r3
    have f6 : W0.frozen? ⟨g3, 6, none⟩ = false := frozen_of_row W0 g3 6 _ _ hB.out.r3
    have y3 : W0.cell? ⟨g3, 3, none⟩ = some (.int .i64 0) := cell_of_row W0 g3 3 _ _ _ hB.out.r3
    have f3 : W0.frozen? ⟨g3, 3, none⟩ = false := frozen_of_row W0 g3 3 _ _ hB.out.r3
    have n13 : g1 ≠ g3 := by have := hB.out.h1; have := hB.out.h2; omega
    go_upto_region 19 with fail
    go_region
    go_upto_region 20 with fail
    obtain ⟨wc, hwc⟩ : ∃ wc, wc = ((W0.setCell ⟨g3, 6, none⟩ (.int .u8 why)).setCell ⟨g3, 3, none⟩ (.int .i64 pl)).drew := ⟨_, rfl⟩
    have hC : Hid (BoxB w w.heap.size g1 g2 g3 #[.int .u8 10, .int .i64 th, .int .i64 tx, .int .i64 pl, .int .i64 v, .int .i64 x, .int .u8 why] #[.int .u8 10, .int .i64 th, .int .i64 0, .int .i64 pl, .int .i64 0, .int .i64 0, .int .u8 why] wc) := by rw [hwc]; exact (boxB_drew (boxB_set (boxB_set hB.out 6 _) 3 _))
    rw [← hwc]
    clear hB x0 x1 x2 x3 x4 x5 x6 y6 f6 y3 f3 hwc n13
    obtain ⟨y0, y1, y2, y3, y4, y5, y6⟩ := evat hC.out.r3
    obtain ⟨z0, z1, z2, z3, z4, z5, z6⟩ := evat hC.out.r2
    have fz : ∀ j, wc.frozen? ⟨g2, j, none⟩ = false := fun j => frozen_of_row wc g2 j _ _ hC.out.r2
    have f0 := fz 0
    have f1 := fz 1
    have f2 := fz 2
    have f3 := fz 3
    have f4 := fz 4
    have f5 := fz 5
    have f6 := fz 6
    clear fz
    go_wp2_with fail
    obtain ⟨W8, hW8⟩ : ∃ W8, W8 = sevenB wc g2 (.int .u8 10) (.int .i64 th) (.int .i64 0) (.int .i64 pl) (.int .i64 0) (.int .i64 0) (.int .u8 why) := ⟨_, rfl⟩
    have hw8 := seven_row wc g2 (.int .u8 10) (.int .i64 th) (.int .i64 0) (.int .i64 pl) (.int .i64 0) (.int .i64 0) (.int .u8 why) hC.out.r2
    have hb8 : Below w.heap.size w W8 := by rw [hW8]; exact seven_below hC.out.low hC.out.l2 _ _ _ _ _ _ _
    rw [← hW8] at hw8
    unfold sevenB at hW8
    rw [← hW8]
    clear hW8 y0 y1 y2 y3 y4 y5 y6 z0 z1 z2 z3 z4 z5 z6 f0 f1 f2 f3 f4 f5 f6
    exact bodyPost_ret (v := .agg #[.int .u8 10, .int .i64 th, .int .i64 0, .int .i64 pl, .int .i64 0, .int .i64 0, .int .u8 why]) (results_c1 Tryd.results39 _ W8 g2 23 _ (0, 0) _ rfl hw8 Tryd.underlying23 rfl (by kernel_rfl)) rfl ⟨by rw [hR]; rfl, hb8⟩
  by_cases k4 : kd = 4
  · subst k4
    have y3 : W0.cell? ⟨g3, 3, none⟩ = some (.int .i64 0) := cell_of_row W0 g3 3 _ _ _ hB.out.r3
    have f3 : W0.frozen? ⟨g3, 3, none⟩ = false := frozen_of_row W0 g3 3 _ _ hB.out.r3
    go_upto_region 20 with fail
    obtain ⟨wc, hwc⟩ : ∃ wc, wc = (W0.setCell ⟨g3, 3, none⟩ (.int .i64 pl)) := ⟨_, rfl⟩
    have hC : Hid (BoxB w w.heap.size g1 g2 g3 #[.int .u8 4, .int .i64 th, .int .i64 tx, .int .i64 pl, .int .i64 v, .int .i64 x, .int .u8 why] #[.int .u8 4, .int .i64 th, .int .i64 0, .int .i64 pl, .int .i64 0, .int .i64 0, .int .u8 0] wc) := by rw [hwc]; exact (boxB_set hB.out 3 _)
    rw [← hwc]
    clear hB x0 x1 x2 x3 x4 x5 x6 y3 f3 hwc
    obtain ⟨y0, y1, y2, y3, y4, y5, y6⟩ := evat hC.out.r3
    obtain ⟨z0, z1, z2, z3, z4, z5, z6⟩ := evat hC.out.r2
    have fz : ∀ j, wc.frozen? ⟨g2, j, none⟩ = false := fun j => frozen_of_row wc g2 j _ _ hC.out.r2
    have f0 := fz 0
    have f1 := fz 1
    have f2 := fz 2
    have f3 := fz 3
    have f4 := fz 4
    have f5 := fz 5
    have f6 := fz 6
    clear fz
    go_wp2_with fail
    obtain ⟨W8, hW8⟩ : ∃ W8, W8 = sevenB wc g2 (.int .u8 4) (.int .i64 th) (.int .i64 0) (.int .i64 pl) (.int .i64 0) (.int .i64 0) (.int .u8 0) := ⟨_, rfl⟩
    have hw8 := seven_row wc g2 (.int .u8 4) (.int .i64 th) (.int .i64 0) (.int .i64 pl) (.int .i64 0) (.int .i64 0) (.int .u8 0) hC.out.r2
    have hb8 : Below w.heap.size w W8 := by rw [hW8]; exact seven_below hC.out.low hC.out.l2 _ _ _ _ _ _ _
    rw [← hW8] at hw8
    unfold sevenB at hW8
    rw [← hW8]
    clear hW8 y0 y1 y2 y3 y4 y5 y6 z0 z1 z2 z3 z4 z5 z6 f0 f1 f2 f3 f4 f5 f6
    exact bodyPost_ret (v := .agg #[.int .u8 4, .int .i64 th, .int .i64 0, .int .i64 pl, .int .i64 0, .int .i64 0, .int .u8 0]) (results_c1 Tryd.results39 _ W8 g2 23 _ (0, 0) _ rfl hw8 Tryd.underlying23 rfl (by kernel_rfl)) rfl ⟨by rw [hR]; rfl, hb8⟩
  by_cases k6 : kd = 6
  · subst k6
    have y3 : W0.cell? ⟨g3, 3, none⟩ = some (.int .i64 0) := cell_of_row W0 g3 3 _ _ _ hB.out.r3
    have f3 : W0.frozen? ⟨g3, 3, none⟩ = false := frozen_of_row W0 g3 3 _ _ hB.out.r3
    go_upto_region 20 with fail
    obtain ⟨wc, hwc⟩ : ∃ wc, wc = (W0.setCell ⟨g3, 3, none⟩ (.int .i64 pl)) := ⟨_, rfl⟩
    have hC : Hid (BoxB w w.heap.size g1 g2 g3 #[.int .u8 6, .int .i64 th, .int .i64 tx, .int .i64 pl, .int .i64 v, .int .i64 x, .int .u8 why] #[.int .u8 6, .int .i64 th, .int .i64 0, .int .i64 pl, .int .i64 0, .int .i64 0, .int .u8 0] wc) := by rw [hwc]; exact (boxB_set hB.out 3 _)
    rw [← hwc]
    clear hB x0 x1 x2 x3 x4 x5 x6 y3 f3 hwc
    obtain ⟨y0, y1, y2, y3, y4, y5, y6⟩ := evat hC.out.r3
    obtain ⟨z0, z1, z2, z3, z4, z5, z6⟩ := evat hC.out.r2
    have fz : ∀ j, wc.frozen? ⟨g2, j, none⟩ = false := fun j => frozen_of_row wc g2 j _ _ hC.out.r2
    have f0 := fz 0
    have f1 := fz 1
    have f2 := fz 2
    have f3 := fz 3
    have f4 := fz 4
    have f5 := fz 5
    have f6 := fz 6
    clear fz
    go_wp2_with fail
    obtain ⟨W8, hW8⟩ : ∃ W8, W8 = sevenB wc g2 (.int .u8 6) (.int .i64 th) (.int .i64 0) (.int .i64 pl) (.int .i64 0) (.int .i64 0) (.int .u8 0) := ⟨_, rfl⟩
    have hw8 := seven_row wc g2 (.int .u8 6) (.int .i64 th) (.int .i64 0) (.int .i64 pl) (.int .i64 0) (.int .i64 0) (.int .u8 0) hC.out.r2
    have hb8 : Below w.heap.size w W8 := by rw [hW8]; exact seven_below hC.out.low hC.out.l2 _ _ _ _ _ _ _
    rw [← hW8] at hw8
    unfold sevenB at hW8
    rw [← hW8]
    clear hW8 y0 y1 y2 y3 y4 y5 y6 z0 z1 z2 z3 z4 z5 z6 f0 f1 f2 f3 f4 f5 f6
    exact bodyPost_ret (v := .agg #[.int .u8 6, .int .i64 th, .int .i64 0, .int .i64 pl, .int .i64 0, .int .i64 0, .int .u8 0]) (results_c1 Tryd.results39 _ W8 g2 23 _ (0, 0) _ rfl hw8 Tryd.underlying23 rfl (by kernel_rfl)) rfl ⟨by rw [hR]; rfl, hb8⟩
  by_cases k9 : kd = 9
  · subst k9
    have y3 : W0.cell? ⟨g3, 3, none⟩ = some (.int .i64 0) := cell_of_row W0 g3 3 _ _ _ hB.out.r3
    have f3 : W0.frozen? ⟨g3, 3, none⟩ = false := frozen_of_row W0 g3 3 _ _ hB.out.r3
    go_upto_region 20 with fail
    obtain ⟨wc, hwc⟩ : ∃ wc, wc = (W0.setCell ⟨g3, 3, none⟩ (.int .i64 pl)) := ⟨_, rfl⟩
    have hC : Hid (BoxB w w.heap.size g1 g2 g3 #[.int .u8 9, .int .i64 th, .int .i64 tx, .int .i64 pl, .int .i64 v, .int .i64 x, .int .u8 why] #[.int .u8 9, .int .i64 th, .int .i64 0, .int .i64 pl, .int .i64 0, .int .i64 0, .int .u8 0] wc) := by rw [hwc]; exact (boxB_set hB.out 3 _)
    rw [← hwc]
    clear hB x0 x1 x2 x3 x4 x5 x6 y3 f3 hwc
    obtain ⟨y0, y1, y2, y3, y4, y5, y6⟩ := evat hC.out.r3
    obtain ⟨z0, z1, z2, z3, z4, z5, z6⟩ := evat hC.out.r2
    have fz : ∀ j, wc.frozen? ⟨g2, j, none⟩ = false := fun j => frozen_of_row wc g2 j _ _ hC.out.r2
    have f0 := fz 0
    have f1 := fz 1
    have f2 := fz 2
    have f3 := fz 3
    have f4 := fz 4
    have f5 := fz 5
    have f6 := fz 6
    clear fz
    go_wp2_with fail
    obtain ⟨W8, hW8⟩ : ∃ W8, W8 = sevenB wc g2 (.int .u8 9) (.int .i64 th) (.int .i64 0) (.int .i64 pl) (.int .i64 0) (.int .i64 0) (.int .u8 0) := ⟨_, rfl⟩
    have hw8 := seven_row wc g2 (.int .u8 9) (.int .i64 th) (.int .i64 0) (.int .i64 pl) (.int .i64 0) (.int .i64 0) (.int .u8 0) hC.out.r2
    have hb8 : Below w.heap.size w W8 := by rw [hW8]; exact seven_below hC.out.low hC.out.l2 _ _ _ _ _ _ _
    rw [← hW8] at hw8
    unfold sevenB at hW8
    rw [← hW8]
    clear hW8 y0 y1 y2 y3 y4 y5 y6 z0 z1 z2 z3 z4 z5 z6 f0 f1 f2 f3 f4 f5 f6
    exact bodyPost_ret (v := .agg #[.int .u8 9, .int .i64 th, .int .i64 0, .int .i64 pl, .int .i64 0, .int .i64 0, .int .u8 0]) (results_c1 Tryd.results39 _ W8 g2 23 _ (0, 0) _ rfl hw8 Tryd.underlying23 rfl (by kernel_rfl)) rfl ⟨by rw [hR]; rfl, hb8⟩
  by_cases k11 : kd = 11
  · subst k11
    have y3 : W0.cell? ⟨g3, 3, none⟩ = some (.int .i64 0) := cell_of_row W0 g3 3 _ _ _ hB.out.r3
    have f3 : W0.frozen? ⟨g3, 3, none⟩ = false := frozen_of_row W0 g3 3 _ _ hB.out.r3
    go_upto_region 20 with fail
    obtain ⟨wc, hwc⟩ : ∃ wc, wc = (W0.setCell ⟨g3, 3, none⟩ (.int .i64 pl)) := ⟨_, rfl⟩
    have hC : Hid (BoxB w w.heap.size g1 g2 g3 #[.int .u8 11, .int .i64 th, .int .i64 tx, .int .i64 pl, .int .i64 v, .int .i64 x, .int .u8 why] #[.int .u8 11, .int .i64 th, .int .i64 0, .int .i64 pl, .int .i64 0, .int .i64 0, .int .u8 0] wc) := by rw [hwc]; exact (boxB_set hB.out 3 _)
    rw [← hwc]
    clear hB x0 x1 x2 x3 x4 x5 x6 y3 f3 hwc
    obtain ⟨y0, y1, y2, y3, y4, y5, y6⟩ := evat hC.out.r3
    obtain ⟨z0, z1, z2, z3, z4, z5, z6⟩ := evat hC.out.r2
    have fz : ∀ j, wc.frozen? ⟨g2, j, none⟩ = false := fun j => frozen_of_row wc g2 j _ _ hC.out.r2
    have f0 := fz 0
    have f1 := fz 1
    have f2 := fz 2
    have f3 := fz 3
    have f4 := fz 4
    have f5 := fz 5
    have f6 := fz 6
    clear fz
    go_wp2_with fail
    obtain ⟨W8, hW8⟩ : ∃ W8, W8 = sevenB wc g2 (.int .u8 11) (.int .i64 th) (.int .i64 0) (.int .i64 pl) (.int .i64 0) (.int .i64 0) (.int .u8 0) := ⟨_, rfl⟩
    have hw8 := seven_row wc g2 (.int .u8 11) (.int .i64 th) (.int .i64 0) (.int .i64 pl) (.int .i64 0) (.int .i64 0) (.int .u8 0) hC.out.r2
    have hb8 : Below w.heap.size w W8 := by rw [hW8]; exact seven_below hC.out.low hC.out.l2 _ _ _ _ _ _ _
    rw [← hW8] at hw8
    unfold sevenB at hW8
    rw [← hW8]
    clear hW8 y0 y1 y2 y3 y4 y5 y6 z0 z1 z2 z3 z4 z5 z6 f0 f1 f2 f3 f4 f5 f6
    exact bodyPost_ret (v := .agg #[.int .u8 11, .int .i64 th, .int .i64 0, .int .i64 pl, .int .i64 0, .int .i64 0, .int .u8 0]) (results_c1 Tryd.results39 _ W8 g2 23 _ (0, 0) _ rfl hw8 Tryd.underlying23 rfl (by kernel_rfl)) rfl ⟨by rw [hR]; rfl, hb8⟩
  by_cases k5 : kd = 5
  · subst k5
    have y4 : W0.cell? ⟨g3, 4, none⟩ = some (.int .i64 0) := cell_of_row W0 g3 4 _ _ _ hB.out.r3
    have f4 : W0.frozen? ⟨g3, 4, none⟩ = false := frozen_of_row W0 g3 4 _ _ hB.out.r3
    go_upto_region 20 with fail
    obtain ⟨wc, hwc⟩ : ∃ wc, wc = (W0.setCell ⟨g3, 4, none⟩ (.int .i64 v)) := ⟨_, rfl⟩
    have hC : Hid (BoxB w w.heap.size g1 g2 g3 #[.int .u8 5, .int .i64 th, .int .i64 tx, .int .i64 pl, .int .i64 v, .int .i64 x, .int .u8 why] #[.int .u8 5, .int .i64 th, .int .i64 0, .int .i64 0, .int .i64 v, .int .i64 0, .int .u8 0] wc) := by rw [hwc]; exact (boxB_set hB.out 4 _)
    rw [← hwc]
    clear hB x0 x1 x2 x3 x4 x5 x6 y4 f4 hwc
    obtain ⟨y0, y1, y2, y3, y4, y5, y6⟩ := evat hC.out.r3
    obtain ⟨z0, z1, z2, z3, z4, z5, z6⟩ := evat hC.out.r2
    have fz : ∀ j, wc.frozen? ⟨g2, j, none⟩ = false := fun j => frozen_of_row wc g2 j _ _ hC.out.r2
    have f0 := fz 0
    have f1 := fz 1
    have f2 := fz 2
    have f3 := fz 3
    have f4 := fz 4
    have f5 := fz 5
    have f6 := fz 6
    clear fz
    go_wp2_with fail
    obtain ⟨W8, hW8⟩ : ∃ W8, W8 = sevenB wc g2 (.int .u8 5) (.int .i64 th) (.int .i64 0) (.int .i64 0) (.int .i64 v) (.int .i64 0) (.int .u8 0) := ⟨_, rfl⟩
    have hw8 := seven_row wc g2 (.int .u8 5) (.int .i64 th) (.int .i64 0) (.int .i64 0) (.int .i64 v) (.int .i64 0) (.int .u8 0) hC.out.r2
    have hb8 : Below w.heap.size w W8 := by rw [hW8]; exact seven_below hC.out.low hC.out.l2 _ _ _ _ _ _ _
    rw [← hW8] at hw8
    unfold sevenB at hW8
    rw [← hW8]
    clear hW8 y0 y1 y2 y3 y4 y5 y6 z0 z1 z2 z3 z4 z5 z6 f0 f1 f2 f3 f4 f5 f6
    exact bodyPost_ret (v := .agg #[.int .u8 5, .int .i64 th, .int .i64 0, .int .i64 0, .int .i64 v, .int .i64 0, .int .u8 0]) (results_c1 Tryd.results39 _ W8 g2 23 _ (0, 0) _ rfl hw8 Tryd.underlying23 rfl (by kernel_rfl)) rfl ⟨by rw [hR]; rfl, hb8⟩
  by_cases k7 : kd = 7
  · subst k7
    have y4 : W0.cell? ⟨g3, 4, none⟩ = some (.int .i64 0) := cell_of_row W0 g3 4 _ _ _ hB.out.r3
    have f4 : W0.frozen? ⟨g3, 4, none⟩ = false := frozen_of_row W0 g3 4 _ _ hB.out.r3
    go_upto_region 20 with fail
    obtain ⟨wc, hwc⟩ : ∃ wc, wc = (W0.setCell ⟨g3, 4, none⟩ (.int .i64 v)) := ⟨_, rfl⟩
    have hC : Hid (BoxB w w.heap.size g1 g2 g3 #[.int .u8 7, .int .i64 th, .int .i64 tx, .int .i64 pl, .int .i64 v, .int .i64 x, .int .u8 why] #[.int .u8 7, .int .i64 th, .int .i64 0, .int .i64 0, .int .i64 v, .int .i64 0, .int .u8 0] wc) := by rw [hwc]; exact (boxB_set hB.out 4 _)
    rw [← hwc]
    clear hB x0 x1 x2 x3 x4 x5 x6 y4 f4 hwc
    obtain ⟨y0, y1, y2, y3, y4, y5, y6⟩ := evat hC.out.r3
    obtain ⟨z0, z1, z2, z3, z4, z5, z6⟩ := evat hC.out.r2
    have fz : ∀ j, wc.frozen? ⟨g2, j, none⟩ = false := fun j => frozen_of_row wc g2 j _ _ hC.out.r2
    have f0 := fz 0
    have f1 := fz 1
    have f2 := fz 2
    have f3 := fz 3
    have f4 := fz 4
    have f5 := fz 5
    have f6 := fz 6
    clear fz
    go_wp2_with fail
    obtain ⟨W8, hW8⟩ : ∃ W8, W8 = sevenB wc g2 (.int .u8 7) (.int .i64 th) (.int .i64 0) (.int .i64 0) (.int .i64 v) (.int .i64 0) (.int .u8 0) := ⟨_, rfl⟩
    have hw8 := seven_row wc g2 (.int .u8 7) (.int .i64 th) (.int .i64 0) (.int .i64 0) (.int .i64 v) (.int .i64 0) (.int .u8 0) hC.out.r2
    have hb8 : Below w.heap.size w W8 := by rw [hW8]; exact seven_below hC.out.low hC.out.l2 _ _ _ _ _ _ _
    rw [← hW8] at hw8
    unfold sevenB at hW8
    rw [← hW8]
    clear hW8 y0 y1 y2 y3 y4 y5 y6 z0 z1 z2 z3 z4 z5 z6 f0 f1 f2 f3 f4 f5 f6
    exact bodyPost_ret (v := .agg #[.int .u8 7, .int .i64 th, .int .i64 0, .int .i64 0, .int .i64 v, .int .i64 0, .int .u8 0]) (results_c1 Tryd.results39 _ W8 g2 23 _ (0, 0) _ rfl hw8 Tryd.underlying23 rfl (by kernel_rfl)) rfl ⟨by rw [hR]; rfl, hb8⟩
  have hbf : bareF ⟨kd, th, tx, pl, v, x, why⟩ = ⟨kd, th, 0, 0, 0, 0, 0⟩ := by simp [bareF, k1, k2, k3, k4, k5, k6, k7, k8, k9, k10, k11]
  rw [hbf] at hR
  have q1 : (kd == 1) = false := beq_eq_false_iff_ne.2 k1
  have q2 : (kd == 2) = false := beq_eq_false_iff_ne.2 k2
  have q3 : (kd == 3) = false := beq_eq_false_iff_ne.2 k3
  have q4 : (kd == 4) = false := beq_eq_false_iff_ne.2 k4
  have q5 : (kd == 5) = false := beq_eq_false_iff_ne.2 k5
  have q6 : (kd == 6) = false := beq_eq_false_iff_ne.2 k6
  have q7 : (kd == 7) = false := beq_eq_false_iff_ne.2 k7
  have q8 : (kd == 8) = false := beq_eq_false_iff_ne.2 k8
  have q9 : (kd == 9) = false := beq_eq_false_iff_ne.2 k9
  have q10 : (kd == 10) = false := beq_eq_false_iff_ne.2 k10
  have q11 : (kd == 11) = false := beq_eq_false_iff_ne.2 k11
  clear hbf k1 k2 k3 k4 k5 k6 k7 k8 k9 k10 k11
  go_upto_region 20 with fail
  obtain ⟨wc, hwc⟩ : ∃ wc, wc = W0 := ⟨_, rfl⟩
  have hC : Hid (BoxB w w.heap.size g1 g2 g3 #[.int .u8 kd, .int .i64 th, .int .i64 tx, .int .i64 pl, .int .i64 v, .int .i64 x, .int .u8 why] #[.int .u8 kd, .int .i64 th, .int .i64 0, .int .i64 0, .int .i64 0, .int .i64 0, .int .u8 0] wc) := by rw [hwc]; exact hB.out
  subst hwc
  clear hB x0 x1 x2 x3 x4 x5 x6 
  obtain ⟨y0, y1, y2, y3, y4, y5, y6⟩ := evat hC.out.r3
  obtain ⟨z0, z1, z2, z3, z4, z5, z6⟩ := evat hC.out.r2
  have fz : ∀ j, wc.frozen? ⟨g2, j, none⟩ = false := fun j => frozen_of_row wc g2 j _ _ hC.out.r2
  have f0 := fz 0
  have f1 := fz 1
  have f2 := fz 2
  have f3 := fz 3
  have f4 := fz 4
  have f5 := fz 5
  have f6 := fz 6
  clear fz
  go_wp2_with fail
  obtain ⟨W8, hW8⟩ : ∃ W8, W8 = sevenB wc g2 (.int .u8 kd) (.int .i64 th) (.int .i64 0) (.int .i64 0) (.int .i64 0) (.int .i64 0) (.int .u8 0) := ⟨_, rfl⟩
  have hw8 := seven_row wc g2 (.int .u8 kd) (.int .i64 th) (.int .i64 0) (.int .i64 0) (.int .i64 0) (.int .i64 0) (.int .u8 0) hC.out.r2
  have hb8 : Below w.heap.size w W8 := by rw [hW8]; exact seven_below hC.out.low hC.out.l2 _ _ _ _ _ _ _
  rw [← hW8] at hw8
  unfold sevenB at hW8
  rw [← hW8]
  clear hW8 y0 y1 y2 y3 y4 y5 y6 z0 z1 z2 z3 z4 z5 z6 f0 f1 f2 f3 f4 f5 f6
  exact bodyPost_ret (v := .agg #[.int .u8 kd, .int .i64 th, .int .i64 0, .int .i64 0, .int .i64 0, .int .i64 0, .int .u8 0]) (results_c1 Tryd.results39 _ W8 g2 23 _ (0, 0) _ rfl hw8 Tryd.underlying23 rfl (by kernel_rfl)) rfl ⟨by rw [hR]; rfl, hb8⟩
end Go.Proofs.YtfbnigikofidoaaDoor
