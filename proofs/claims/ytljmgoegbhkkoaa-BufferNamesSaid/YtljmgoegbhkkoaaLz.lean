/-
  CONTRACTS OF PACKAGE buffer's Of, and of its calls on nil. Conditions: as they stand.
-/
import Derived.Test.YtljmgoegbhkkoaaLy
namespace Go.Proofs.Ytljmgoegbhkkoaa
set_option maxRecDepth 100000
open Go.RowKit Go.Maps Go.Shelf
set_option linter.unusedVariables false
set_option maxHeartbeats 4000000 in
theorem of_any (w0 w : World) (hB : Below w0.heap.size w0 w) (A : Option Addr) (c : Nat) (l : List Pr) (hp : PairsAt w w.heap.size A l) (hw : ∀ e ∈ l, wfI e.1 ∧ wfI e.2) (hl : l.length ≤ 900) :
    Calls Try.prog 27 #[.slice A l.length c] w fun e w' => ∃ q, e = .returned (.pointer (some ⟨q, 0, none⟩)) ∧ BX w0 q (fun _ => False) [l] w' ∧ Below w.heap.size w w' ∧ w.heap.size ≤ q := by
  have HP := Lib.hid hp
  have HW := Lib.hid hw
  clear hp hw
  go_enter Try.func27, Try.ntmps27
  go_wp2_with fail
  refine (bx_new w w (Below.refl _ _)).mono ?_
  rintro e w2 ⟨rfl, hx2⟩
  obtain ⟨q, hq⟩ : ∃ q, q = w.heap.size := ⟨_, rfl⟩
  have HQ : Hid (w.heap.size ≤ q) := Nat.le_of_eq hq.symm
  rw [← hq] at hx2 ⊢
  have HX2 := Lib.hid hx2
  clear hx2 hq
  go_wp2_with fail
  go_loopw [9] (fun i wr => ∃ k : Nat, k ≤ l.length ∧ i = .int .i64 k ∧ Hid (BX w q (fun _ => False) [l.take k] wr)) (fun i _ => l.length - (intOf i).toNat)
  case atStart => exact ⟨0, by omega, rfl, HX2⟩
  case round =>
    obtain ⟨k, hk, rfl, hx⟩ := hrel
    by_cases hlt : k < l.length
    · obtain ⟨p, rfl, mb, x1, x2⟩ := HP.out.below hx.out.low (Nat.le_refl _) k hlt
      obtain ⟨hv, hx9⟩ := HW.out l[k] (List.getElem_mem hlt)
      have htk : l.take (k + 1) = l.take k ++ [(l[k].1, l[k].2)] := List.take_succ_eq_append_getElem hlt
      obtain ⟨y1, hy1⟩ : ∃ y, y = l[k].1 := ⟨_, rfl⟩
      obtain ⟨y2, hy2⟩ : ∃ y, y = l[k].2 := ⟨_, rfl⟩
      rw [← hy1] at x1 hv
      rw [← hy2] at x2 hx9
      rw [← hy1, ← hy2] at htk
      have HT := Lib.hid htk
      have i2 : (0 : Int) ≤ (k : Int) := by omega
      have i3 : (k : Int) < (l.length : Int) := by omega
      have i4 : (k : Int) ≤ 900 := by omega
      have hcall := bx_put (hx.out.below ((Below.refl wr.heap.size wr).alloc (Nat.le_refl _) (.cells #[.int .i64 y1, .int .i64 y2] 43))).1 (by simp [flat]; omega) y1 y2 hv hx9
      clear hy1 hy2 mb htk hx
      go_wp2_with fail
      refine hcall.mono ?_
      rintro e w5 ⟨rfl, hx5, _⟩
      have HX5 : Hid (BX w q (fun _ => False) [l.take (k + 1)] w5) := by rw [HT.out]; exact hx5
      clear hx5 hcall x1 x2
      go_wp2_with fail
      go_roundw
      case rel => exact ⟨k + 1, by omega, by go_num, HX5⟩
      case measure => simp [intOf]; omega
    · obtain rfl : k = l.length := by omega
      go_wp2_with fail
      go_ret
      have hx' := hx.out
      rw [List.take_length] at hx'
      obtain ⟨S, hr, hS, hN, hb⟩ := hx'
      exact ⟨q, rfl, ⟨S, hr, fun b h => ⟨Nat.le_trans hB.size (hS b h).1, fun h => h⟩, fun b h => h.elim, hB.trans (hb.mono hB.size)⟩, hb, HQ.out⟩
theorem put_nil (v x : Int) (w : World) : Calls Try.prog 13 #[.pointer none, .int .i64 v, .int .i64 x] w fun e w' => e = .returned (.int .i64 2) ∧ w' = w := by
  go_enter Try.func13, Try.ntmps13
  go_wp2_with fail
  go_ret
  exact ⟨by first | rfl | trivial, rfl⟩
theorem push_nil (w : World) : Calls Try.prog 15 #[.pointer none] w fun e w' => e = .returned (.int .i64 2) ∧ w' = w := by
  go_enter Try.func15, Try.ntmps15
  go_wp2_with fail
  go_ret
  exact ⟨by first | rfl | trivial, rfl⟩
theorem drop_nil (w : World) : Calls Try.prog 17 #[.pointer none] w fun e w' => e = .returned (.int .i64 2) ∧ w' = w := by
  go_enter Try.func17, Try.ntmps17
  go_wp2_with fail
  go_ret
  exact ⟨by first | rfl | trivial, rfl⟩
theorem merge_nil (w : World) : Calls Try.prog 19 #[.pointer none] w fun e w' => e = .returned (.int .i64 2) ∧ w' = w := by
  go_enter Try.func19, Try.ntmps19
  go_wp2_with fail
  go_ret
  exact ⟨by first | rfl | trivial, rfl⟩
theorem depth_nil (w : World) : Calls Try.prog 24 #[.pointer none] w fun e w' => e = .returned (.int .i64 0) ∧ w' = w := by
  go_enter Try.func24, Try.ntmps24
  go_wp2_with fail
  go_ret
  exact ⟨by first | rfl | trivial, rfl⟩
theorem copy_nil (w : World) : Calls Try.prog 11 #[.pointer none] w fun e w' => e = .returned (.pointer none) ∧ w' = w := by
  go_enter Try.func11, Try.ntmps11
  go_wp2_with fail
  go_ret
  exact ⟨by first | rfl | trivial, rfl⟩
theorem get_nil (v : Int) (w : World) : Calls Try.prog 21 #[.pointer none, .int .i64 v] w fun e w' => e = .returned (.tuple #[.int .i64 0, .bool false]) ∧ Below w.heap.size w w' := callsIn_wide.1 (get_nil_in 5 (by omega) w v)
theorem all_nil (w : World) : Calls Try.prog 23 #[.pointer none] w fun e w' => ∃ (B : Option Addr) (d : Nat), e = .returned (.slice B 0 d) ∧ Below w.heap.size w w' := callsIn_wide.1 (all_nil_in 7 (by omega) w)
end Go.Proofs.Ytljmgoegbhkkoaa
