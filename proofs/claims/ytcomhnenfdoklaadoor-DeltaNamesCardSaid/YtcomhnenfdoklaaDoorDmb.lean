/-
  PACKAGE delta: Write and Read of nobody, and with nobody. Conditions: as they stand.
-/
import Derived.Test.YtcomhnenfdoklaaDoorDlx
namespace Go.Proofs.YtcomhnenfdoklaaDoor
set_option maxRecDepth 100000
open Go.RowKit Go.Deep
set_option linter.unusedVariables false
set_option linter.unusedSimpArgs false
theorem write_nil1 (e : Ev) (p : Value) (w : World) : Calls Tryd.prog 16 #[.pointer none, p, evV e] w fun r w' => r = .returned (.int .i64 2) ∧ Below w.heap.size w w' := by
  have b1 : Below w.heap.size w (w.alloc (.cells #[.int .u8 e.kd, .int .i64 e.th, .int .i64 e.tx, .int .i64 e.pl, .int .i64 e.v, .int .i64 e.x, .int .u8 e.why] 41)) := (Below.refl _ _).alloc (Nat.le_refl _) _
  have HEV : evV e = .agg #[.int .u8 e.kd, .int .i64 e.th, .int .i64 e.tx, .int .i64 e.pl, .int .i64 e.v, .int .i64 e.x, .int .u8 e.why] := rfl
  rw [HEV]
  go_enter Tryd.func16, Tryd.ntmps16
  go_wp2_with fail
  refine (none_nil _).mono ?_
  rintro _ w2 ⟨rfl, rfl⟩
  go_wp2_with fail
  go_ret
  exact ⟨rfl, b1⟩
theorem write_nil2 (e : Ev) (q : Cd) (hq : CdOk q) (gc : Nat) (w : World) (hc : CodAt w gc q) : Calls Tryd.prog 16 #[.pointer (some ⟨gc, 0, none⟩), .pointer none, evV e] w fun r w' => r = .returned (.int .i64 2) ∧ Below w.heap.size w w' := by
  have b1 : Below w.heap.size w (w.alloc (.cells #[.int .u8 e.kd, .int .i64 e.th, .int .i64 e.tx, .int .i64 e.pl, .int .i64 e.v, .int .i64 e.x, .int .u8 e.why] 41)) := (Below.refl _ _).alloc (Nat.le_refl _) _
  have HEV : evV e = .agg #[.int .u8 e.kd, .int .i64 e.th, .int .i64 e.tx, .int .i64 e.pl, .int .i64 e.v, .int .i64 e.x, .int .u8 e.why] := rfl
  have HN := Lib.hid (none_any q hq gc _ (hc.below b1))
  rw [HEV]
  clear hc
  go_enter Tryd.func16, Tryd.ntmps16
  go_wp2_with fail
  refine HN.out.mono ?_
  rintro _ w2 ⟨rfl, rfl⟩
  go_wp2_with fail
  go_ret
  exact ⟨rfl, b1⟩
def RdNil (w : World) (r : Ending) (w' : World) : Prop := r = .returned (.tuple #[evV ev0, .int .i64 2]) ∧ Below w.heap.size w w'
theorem read_nil1 (p : Option Addr) (w : World) : Calls Tryd.prog 21 #[.pointer none, .pointer p] w (RdNil w) := by
  obtain ⟨w1, hw1⟩ : ∃ w1, (w.alloc (.cells #[.pointer p] 47)).alloc (.cells #[.int .u8 0, .int .i64 0, .int .i64 0, .int .i64 0, .int .i64 0, .int .i64 0, .int .u8 0] 41) = w1 := ⟨_, rfl⟩
  have ha1 : Below w.heap.size w (w.alloc (.cells #[.pointer p] 47)) := (Below.refl _ _).alloc (Nat.le_refl _) _
  have hb1 : Below w.heap.size w w1 := by rw [← hw1]; exact ha1.alloc ha1.size _
  have hev : EvO w1 (w.heap.size + 1) ev0 := by
    rw [← hw1]
    have h9 := heap_alloc_new (w.alloc (.cells #[.pointer p] 47)) (.cells (evC ev0) 41 (0, 0))
    rw [show (w.alloc (.cells #[.pointer p] 47)).heap.size = w.heap.size + 1 by simp] at h9
    exact h9
  have HEV := Lib.hid hev
  have HB1 := Lib.hid hb1
  have HW := Lib.hid hw1
  clear ha1 hb1 hev hw1
  go_enter Tryd.func21, Tryd.ntmps21
  go_wp2_with fail
  rw [HW.out]
  obtain ⟨gb, hgb⟩ : ∃ g, g = w.heap.size := ⟨_, rfl⟩
  obtain ⟨gv, hgv⟩ : ∃ g, g = gb + 1 := ⟨_, rfl⟩
  have HGB := Lib.hid hgb
  have HGV := Lib.hid hgv
  rw [← hgb] at HEV ⊢
  rw [← hgv] at HEV ⊢
  clear hgb hgv HW
  refine (none_nil _).mono ?_
  rintro _ w2 ⟨rfl, rfl⟩
  have HF : Hid (RdNil w (.returned (.tuple #[.agg (evC ev0), .int .i64 2])) (w1.setRow gv (evC ev0))) := by
    have hs := row_set (cs := evC ev0) HEV.out
    exact ⟨rfl, ⟨by rw [hs.2.os, HB1.out.os], by rw [hs.2.tape, HB1.out.tape], by rw [hs.2.output, HB1.out.output], Nat.le_trans HB1.out.size hs.2.size, fun i hi => by
      rw [hs.2.block i (Nat.lt_of_lt_of_le hi HB1.out.size) (by have := HGV.out; have := HGB.out; omega) (by simp), HB1.out.block i hi]⟩⟩
  go_wp2_with (first
    | (refine wpList_store_row rfl _ _ _ rfl gv (evC ev0) rfl rfl 41 _ HEV.out (by kernel_rfl) rfl (by simp [Value.oneCell', evC]) ?_)
    | fail)
  refine bodyPost_ret (results_ctD rfl _ _ gv 41 (evC ev0) (0, 0) _ rfl (setRow_heap _ _ _ _ _ _ HEV.out) Tryd.underlying41 rfl (by kernel_rfl)) rfl ?_
  exact HF.out
theorem read_nil2 (q : Cd) (hq : CdOk q) (gc : Nat) (w : World) (hc : CodAt w gc q) : Calls Tryd.prog 21 #[.pointer (some ⟨gc, 0, none⟩), .pointer none] w (RdNil w) := by
  obtain ⟨w1, hw1⟩ : ∃ w1, (w.alloc (.cells #[.pointer none] 47)).alloc (.cells #[.int .u8 0, .int .i64 0, .int .i64 0, .int .i64 0, .int .i64 0, .int .i64 0, .int .u8 0] 41) = w1 := ⟨_, rfl⟩
  have ha1 : Below w.heap.size w (w.alloc (.cells #[.pointer none] 47)) := (Below.refl _ _).alloc (Nat.le_refl _) _
  have hb1 : Below w.heap.size w w1 := by rw [← hw1]; exact ha1.alloc ha1.size _
  have hbox : w1.heap[w.heap.size]? = some (.cells #[.pointer none] 47 (0, 0)) := by
    rw [← hw1]
    exact row_stays (heap_alloc_new w _) ((Below.refl _ _).alloc (Nat.le_refl _) _)
  have hev : EvO w1 (w.heap.size + 1) ev0 := by
    rw [← hw1]
    have h9 := heap_alloc_new (w.alloc (.cells #[.pointer none] 47)) (.cells (evC ev0) 41 (0, 0))
    rw [show (w.alloc (.cells #[.pointer none] 47)).heap.size = w.heap.size + 1 by simp] at h9
    exact h9
  have HN := Lib.hid (none_any q hq gc _ (hc.below hb1))
  have HEV := Lib.hid hev
  have HBX := Lib.hid hbox
  have HB1 := Lib.hid hb1
  have HW := Lib.hid hw1
  clear ha1 hb1 hev hw1 hc hbox
  go_enter Tryd.func21, Tryd.ntmps21
  go_wp2_with fail
  rw [HW.out]
  obtain ⟨gb, hgb⟩ : ∃ g, g = w.heap.size := ⟨_, rfl⟩
  obtain ⟨gv, hgv⟩ : ∃ g, g = gb + 1 := ⟨_, rfl⟩
  have HGB := Lib.hid hgb
  have HGV := Lib.hid hgv
  rw [← hgb] at HEV HBX ⊢
  rw [← hgv] at HEV ⊢
  clear hgb hgv HW
  refine HN.out.mono ?_
  rintro _ w2 ⟨rfl, rfl⟩
  have b0 : w1.cell? ⟨gb, 0, none⟩ = some (.pointer none) := cell_of_row w1 gb 0 _ _ _ HBX.out
  have HF : Hid (RdNil w (.returned (.tuple #[.agg (evC ev0), .int .i64 2])) (w1.setRow gv (evC ev0))) := by
    have hs := row_set (cs := evC ev0) HEV.out
    exact ⟨rfl, ⟨by rw [hs.2.os, HB1.out.os], by rw [hs.2.tape, HB1.out.tape], by rw [hs.2.output, HB1.out.output], Nat.le_trans HB1.out.size hs.2.size, fun i hi => by
      rw [hs.2.block i (Nat.lt_of_lt_of_le hi HB1.out.size) (by have := HGV.out; have := HGB.out; omega) (by simp), HB1.out.block i hi]⟩⟩
  go_wp2_with (first
    | (refine wpList_store_row rfl _ _ _ rfl gv (evC ev0) rfl rfl 41 _ HEV.out (by kernel_rfl) rfl (by simp [Value.oneCell', evC]) ?_)
    | fail)
  refine bodyPost_ret (results_ctD rfl _ _ gv 41 (evC ev0) (0, 0) _ rfl (setRow_heap _ _ _ _ _ _ HEV.out) Tryd.underlying41 rfl (by kernel_rfl)) rfl ?_
  exact HF.out
end Go.Proofs.YtcomhnenfdoklaaDoor
