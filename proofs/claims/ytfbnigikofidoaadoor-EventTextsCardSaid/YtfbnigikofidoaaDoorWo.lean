/-
  CONTRACTS: strings.Cut at a space; package event's number, and the event that has these numbers. Conditions: as they stand.
-/
import Derived.Test.YtfbnigikofidoaaDoorWn
import Derived.IntWalk
import Derived.StillTailTactics
namespace Go.Proofs.YtfbnigikofidoaaDoor
set_option maxRecDepth 100000
open Go.RowKit
set_option linter.unusedVariables false
def cutV (l : List UInt8) : Value := .tuple #[.string (bsW (cut1 l).1), .string (bsW (cut1 l).2), .bool (decide (0 ≤ Lib.indexByte l 32))]
theorem ret_cut {l : List UInt8} {a b : ByteArray} {f : Bool} (h1 : bsW (cut1 l).1 = a) (h2 : bsW (cut1 l).2 = b) (h3 : decide (0 ≤ Lib.indexByte l 32) = f) : Ending.returned (.tuple #[.string a, .string b, .bool f]) = .returned (cutV l) := by rw [← h1, ← h2, ← h3]; rfl
theorem extract_bsW (s : ByteArray) (a b : Nat) : s.extract a b = bsW ((s.data.toList.take b).drop a) := by
  rw [← bsW_of (s.extract a b)]
  congr 1
  simp [ByteArray.data_extract, List.drop_take]
set_option maxHeartbeats 1000000 in
theorem lcut_any (s : ByteArray) (hs : s.size ≤ 281474976710656) (w : World) :
    Calls Tryd.prog 50 #[.string s, .string ⟨#[32]⟩] w fun e w' => e = .returned (cutV s.data.toList) ∧ Below w.heap.size w w' := by
  have H := Lib.hid (lib_index s 32 w)
  by_cases h : Lib.indexByte s.data.toList 32 = -1
  · have hc := cut1_no h
    rw [h] at H
    have R1 : Hid (bsW (cut1 s.data.toList).1 = s) := by show _ = _; rw [hc]; exact bsW_of s
    have R2 : Hid (bsW (cut1 s.data.toList).2 = ⟨#[]⟩) := by show _ = _; rw [hc]; rfl
    have R3 : Hid (decide (0 ≤ Lib.indexByte s.data.toList 32) = false) := by show _ = _; rw [h]; rfl
    clear h hc
    go_enter Tryd.func50, Tryd.ntmps50
    go_wp2_with fail
    refine H.out.mono ?_
    rintro _ w1 ⟨rfl, rfl⟩
    go_wp2_with fail
    go_ret3
    exact ⟨ret_cut R1.out R2.out R3.out, Below.refl _ _⟩
  · have hge := Lib.indexByte_ge s.data.toList 32
    obtain ⟨k, hk⟩ : ∃ k : Nat, Lib.indexByte s.data.toList 32 = k := ⟨(Lib.indexByte s.data.toList 32).toNat, by omega⟩
    obtain ⟨hc, hkl⟩ := cut1_at hk
    have hkl2 : k < s.size := by
      have : s.data.toList.length = s.size := by rw [Array.length_toList]; rfl
      omega
    rw [hk] at H
    have R1 : Hid (bsW (cut1 s.data.toList).1 = s.extract 0 k) := by show _ = _; rw [hc, extract_bsW]; rfl
    have R2 : Hid (bsW (cut1 s.data.toList).2 = s.extract (k + 1) s.size) := by
      show _ = _
      rw [hc, extract_bsW, show s.data.toList.take s.size = s.data.toList from List.take_of_length_le (by rw [Array.length_toList]; exact Nat.le_refl _)]
    have R3 : Hid (decide (0 ≤ Lib.indexByte s.data.toList 32) = true) := by show _ = _; rw [hk]; simp
    have i1 : (0 : Int) ≤ (k : Int) := by omega
    have i2 : (k : Int) < (s.size : Int) := by omega
    have i3 : (k : Int) + 1 ≤ (s.size : Int) := by omega
    have i4 : (0 : Int) ≤ (k : Int) + 1 := by omega
    have i5 : (k : Int) ≤ (s.size : Int) := by omega
    clear h hge hk hc hkl
    go_enter Tryd.func50, Tryd.ntmps50
    go_wp2_with fail
    refine H.out.mono ?_
    rintro _ w1 ⟨rfl, rfl⟩
    go_wp2_with fail
    have x1 : IntKind.i64.wrap ((k : Int) + 1) = (k : Int) + 1 := IntWalk.i64_in _ (by omega)
    go_quiet (fail)
    go_wp2_with fail
    go_ret3
    exact ⟨ret_cut R1.out R2.out R3.out, (drewN_belowW _ _)⟩
/-- CUT: what is ahead of the first space, and what is behind it. -/
theorem cut_any (s : ByteArray) (hs : s.size ≤ 281474976710656) (w : World) :
    Calls Tryd.prog 40 #[.string s, .string ⟨#[32]⟩] w fun e w' => e = .returned (cutV s.data.toList) ∧ Below w.heap.size w w' := by
  have H := Lib.hid (lcut_any s hs w)
  obtain ⟨x, hx⟩ : ∃ x, x = bsW (cut1 s.data.toList).1 := ⟨_, rfl⟩
  obtain ⟨y, hy⟩ : ∃ y, y = bsW (cut1 s.data.toList).2 := ⟨_, rfl⟩
  obtain ⟨f, hf⟩ : ∃ f, f = decide (0 ≤ Lib.indexByte s.data.toList 32) := ⟨_, rfl⟩
  unfold cutV at H ⊢
  rw [← hx, ← hy, ← hf] at H ⊢
  clear hx hy hf
  go_enter Tryd.func40, Tryd.ntmps40
  go_wp2_with fail
  refine H.out.mono ?_
  rintro _ w1 ⟨rfl, b1⟩
  have B1 := Lib.hid b1
  clear b1
  go_wp2_with fail
  go_ret3
  exact ⟨rfl, B1.out⟩
theorem number_any (s : ByteArray) (hs : s.size ≤ 281474976710656) (w : World) (he : Ek w) :
    Calls Tryd.prog 42 #[.string s] w fun e w' => e = .returned (.int .i64 (numF s.data.toList)) ∧ Below w.heap.size w w' := by
  have H := Lib.hid (lib_parse s hs w he.e1 he.e2)
  obtain ⟨n, hn⟩ : ∃ n, n = numF s.data.toList := ⟨_, rfl⟩
  rw [← hn] at H ⊢
  clear hn he
  go_enter Tryd.func42, Tryd.ntmps42
  go_wp2_with fail
  refine H.out.mono ?_
  rintro _ w1 ⟨er, rfl, b1⟩
  have B1 := Lib.hid b1
  clear b1
  go_wp2_with fail
  go_ret
  exact ⟨rfl, B1.out⟩
theorem drewN_belowW1 (w : World) {n : Nat} (h : n ≤ w.heap.size) : Below n w w.drew := (Below.refl n w).drew
/-- An event of these numbers, as a value. -/
def evN (kd th : Int) (c : Nat → Int) : Value := .agg #[.int .u8 kd, .int .i64 th, .int .i64 (c 0), .int .i64 (c 1), .int .i64 (c 2), .int .i64 (c 3), .int .u8 (c 4 % 256)]
theorem evN_eq (kd th : Int) (c : Nat → Int) : evN kd th c = evV (evOf kd th c) := rfl
set_option maxHeartbeats 4000000 in
theorem event_any (kd th : Int) (c : Nat → Int) (g : Nat) (w : World) (hg : w.heap[g]? = some (.cells (numR c) 36 (0, 0))) :
    Calls Tryd.prog 43 #[.pointer (some ⟨g, 0, none⟩), .int .u8 kd, .int .i64 th] w fun e w' => e = .returned (evN kd th c) ∧ Below w.heap.size w w' := by
  have c0 : w.cell? ⟨g, 0, none⟩ = some (.int .i64 (c 0)) := (cell_of_row w g 0 _ _ _ hg).trans rfl
  have c1 : w.cell? ⟨g, 1, none⟩ = some (.int .i64 (c 1)) := (cell_of_row w g 1 _ _ _ hg).trans rfl
  have c2 : w.cell? ⟨g, 2, none⟩ = some (.int .i64 (c 2)) := (cell_of_row w g 2 _ _ _ hg).trans rfl
  have c3 : w.cell? ⟨g, 3, none⟩ = some (.int .i64 (c 3)) := (cell_of_row w g 3 _ _ _ hg).trans rfl
  have c4 : w.cell? ⟨g, 4, none⟩ = some (.int .i64 (c 4)) := (cell_of_row w g 4 _ _ _ hg).trans rfl
  have hl := there_blockW c0
  clear hg
  unfold evN
  go_enter Tryd.func43, Tryd.ntmps43
  go_wp2_with fail
  obtain ⟨w1, hw1⟩ : ∃ w1, w1 = w.alloc (.cells #[.int .u8 0, .int .i64 0, .int .i64 0, .int .i64 0, .int .i64 0, .int .i64 0, .int .u8 0] 23) := ⟨_, rfl⟩
  have hb : Below w.heap.size w w1 := by rw [hw1]; exact (Below.refl _ _).alloc (Nat.le_refl _) _
  have d0 := (hb.cell (there_blockW c0)).trans c0
  have d1 := (hb.cell (there_blockW c1)).trans c1
  have d2 := (hb.cell (there_blockW c2)).trans c2
  have d3 := (hb.cell (there_blockW c3)).trans c3
  have d4 := (hb.cell (there_blockW c4)).trans c4
  have hr : w1.heap[w.heap.size]? = some (.cells #[.int .u8 0, .int .i64 0, .int .i64 0, .int .i64 0, .int .i64 0, .int .i64 0, .int .u8 0] 23 (0, 0)) := by rw [hw1]; exact World.alloc_heap_new w _
  obtain ⟨N, hN⟩ : ∃ N, N = w.heap.size := ⟨_, rfl⟩
  rw [← hN] at hr
  have HB := Lib.hid hb
  have HR := Lib.hid hr
  have HN := Lib.hid hN
  rw [← hw1, ← hN]
  clear hw1 hb c0 c1 c2 c3 c4 hl hr hN
  go_still_tail 24, (by kernel_rfl)
  change wpList _ _ _ _ _ w1.drew
  refine wpList_store_row rfl _ _ _ rfl N #[.int .u8 kd, .int .i64 th, .int .i64 (c 0), .int .i64 (c 1), .int .i64 (c 2), .int .i64 (c 3), .int .u8 (c 4 % 256)] rfl rfl 23 _ HR.out (by kernel_rfl) rfl (by simp [Value.oneCell']) ?_
  go_wp2_with fail
  refine bodyPost_ret (results_cell_row rfl _ _ N 23 #[.int .u8 kd, .int .i64 th, .int .i64 (c 0), .int .i64 (c 1), .int .i64 (c 2), .int .i64 (c 3), .int .u8 (c 4 % 256)] (0, 0) _ rfl (setRow_heap _ _ _ _ _ _ HR.out) Tryd.underlying23 rfl (by kernel_rfl)) rfl ⟨rfl, ?_⟩
  exact below_setRowW ((HB.out).trans (drewN_belowW1 w1 HB.out.size)) (by rw [HN.out]; exact Nat.le_refl _) _
end Go.Proofs.YtfbnigikofidoaaDoor
