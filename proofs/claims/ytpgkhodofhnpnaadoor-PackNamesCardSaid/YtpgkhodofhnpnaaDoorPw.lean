/-
  LAYER 7: Encode, of any setup that lies in memory. Conditions: code's and pack's tables lie as they are laid; the bytes fit into a frame.
-/
import Derived.Test.YtpgkhodofhnpnaaDoorPv
import Derived.Test.YtpgkhodofhnpnaaDoorFe
namespace Go.Proofs.YtpgkhodofhnpnaaDoor
set_option maxRecDepth 100000
open Go.RowKit
set_option linter.unusedVariables false
def seB (w : World) (st cl tr : Int) (iv tv : Value) : World := w.alloc (.cells #[.int .i64 st, .int .i64 cl, .int .i64 tr, iv, tv] 29)
theorem seB_below (w : World) (st cl tr : Int) (iv tv : Value) : Below w.heap.size w (seB w st cl tr iv tv) := (Below.refl _ _).alloc (Nat.le_refl _) _
set_option maxRecDepth 100000 in
theorem encode_no (d : Nat) (x : Su) (I T : Option Addr) (c c' lo hi : Nat) (w : World) (hkd : Kd w) (h : SuAt w lo hi d I T x) (hhi : hi ≤ w.heap.size) (hd : d ≤ 4611686018427387903) (ho : okF d x = false) :
    Calls Tryd.prog 7 #[.agg #[.int .i64 x.st, .int .i64 x.cl, .int .i64 x.tr, .slice I x.init.length c, .slice T x.thr.length c']] w fun e w' => e = .returned (.tuple #[.string ⟨#[]⟩, .int .i64 4]) ∧ Below w.heap.size w w' := by
  have hbb := seB_below w x.st x.cl x.tr (.slice I x.init.length c) (.slice T x.thr.length c')
  have HBB := Lib.hid hbb
  have HC := Lib.hid (check_any d x I T c c' lo hi _ (hkd.below hbb (Nat.le_refl _)) (h.below hbb hhi) (Nat.le_trans hhi hbb.size) hd)
  rw [ho] at HC
  unfold seB at HC HBB
  obtain ⟨st, cl, tr, ini, thr⟩ := x
  obtain ⟨L, hL⟩ : ∃ L, L = ini.length := ⟨_, rfl⟩
  obtain ⟨M, hM⟩ : ∃ M, M = thr.length := ⟨_, rfl⟩
  dsimp only at HC HBB ⊢
  rw [← hL, ← hM] at HC HBB ⊢
  have hE : errF false = 4 := rfl
  rw [hE] at HC
  clear h hkd hL hM ho hbb
  go_enter Tryd.func7, Tryd.ntmps7
  go_wp2_with fail
  refine HC.out.mono ?_
  rintro _ w1 ⟨rfl, b1⟩
  go_wp2_with fail
  go_ret2
  exact ⟨rfl, HBB.out.trans (b1.mono HBB.out.size)⟩
set_option maxRecDepth 100000 in
theorem encode_yes (d : Nat) (hd7 : 7 ≤ d) (x : Su) (I T : Option Addr) (c c' lo hi : Nat) (w : World) (hkd : Kd w) (hpt : Pt w) (h : SuAt w lo hi d I T x) (hhi : hi ≤ w.heap.size) (hd : d ≤ 4611686018427387903) (ho : okF d x = true) (hf : (prSu x).length ≤ 16000000) (hini : ∀ v ∈ x.init, -9223372036854775808 ≤ v ∧ v < 9223372036854775808) :
    Calls Tryd.prog 7 #[.agg #[.int .i64 x.st, .int .i64 x.cl, .int .i64 x.tr, .slice I x.init.length c, .slice T x.thr.length c']] w fun e w' => e = .returned (.tuple #[.string (frameS (bs (prSu x))), .int .i64 0]) ∧ Below w.heap.size w w' := by
  have hbb := seB_below w x.st x.cl x.tr (.slice I x.init.length c) (.slice T x.thr.length c')
  have HBB := Lib.hid hbb
  have HC := Lib.hid (check_any d x I T c c' lo hi _ (hkd.below hbb (Nat.le_refl _)) (h.below hbb hhi) (Nat.le_trans hhi hbb.size) hd)
  rw [ho] at HC
  unfold seB at HC HBB
  have hE : errF true = 0 := rfl
  rw [hE] at HC
  have HGS := Lib.hid (su_gs hd7 ho)
  have HSET : Hid (∀ w1, Below w.heap.size w w1 → Calls Tryd.prog 14 #[.agg #[.pointer (some ⟨w1.heap.size, 0, none⟩)], .agg #[.int .i64 x.st, .int .i64 x.cl, .int .i64 x.tr, .slice I x.init.length c, .slice T x.thr.length c']] (w1.alloc (.cells #[.int .i64 16777216, .slice none 0 0] 72)) (Wp w1.heap.size w1.heap.size 16777216 ([] ++ prSu x) (w1.alloc (.cells #[.int .i64 16777216, .slice none 0 0] 72)))) := fun w1 b1 => by
    have hb : Below w1.heap.size w1 (w1.alloc (.cells #[.int .i64 16777216, .slice none 0 0] 72)) := (Below.refl _ _).alloc (Nat.le_refl _) _
    have hz := b1.size
    have hb2 : Below w.heap.size w (w1.alloc (.cells #[.int .i64 16777216, .slice none 0 0] 72)) := b1.trans (hb.mono hz)
    have hp := hpt.pos
    have hpt2 : Pt (w1.alloc (.cells #[.int .i64 16777216, .slice none 0 0] 72)) := fun k hk => (hb2.cell (p := ⟨0, k, none⟩) hp).trans (hpt k hk)
    exact wsetup_any d (by omega) lo hi w1.heap.size w1.heap.size 16777216 (by omega) (by omega) x I T c c' [] _ (h.below hb2 hhi) HGS.out.1 HGS.out.2 ⟨_, Obj.made w1 _ _, World.ownsRow_nil _ _ _ _, by omega, by omega, by simp⟩ hb.size ⟨hpt2, by omega, by omega⟩ (by simp; omega) hini
  have hsz : (bs (prSu x)).size ≤ 16000000 := by rw [bs_size]; exact hf
  have hz10 := numS_size (bs (prSu x)).size
  have hpl := Vm.put_len (bs (prSu x)).size
  have HWR := Lib.hid (wrap_any (bs (prSu x)) (by omega))
  have HNW := Lib.hid (new_writer 16777216 (by omega) (by omega))
  obtain ⟨st, cl, tr, ini, thr⟩ := x
  obtain ⟨L, hL⟩ : ∃ L, L = ini.length := ⟨_, rfl⟩
  obtain ⟨M, hM⟩ : ∃ M, M = thr.length := ⟨_, rfl⟩
  dsimp only at HC HSET HBB ⊢
  rw [← hL, ← hM] at HC HSET HBB ⊢
  obtain ⟨tx, htx⟩ : ∃ tx, tx = prSu ⟨st, cl, tr, ini, thr⟩ := ⟨_, rfl⟩
  rw [← htx] at HSET HWR hsz ⊢
  clear h hkd hL hM ho hpt hf hini HGS hz10 hpl htx hbb
  go_enter Tryd.func7, Tryd.ntmps7
  go_wp2_with fail
  refine HC.out.mono ?_
  rintro _ w1 ⟨rfl, b1⟩
  have hb1 := HBB.out.trans (b1.mono HBB.out.size)
  have HS1 := Lib.hid (HSET.out w1 hb1)
  have HB1 := Lib.hid hb1
  have HZ1 : Hid (w.heap.size + 1 ≤ w1.heap.size) := by show _ ≤ _; have := b1.size; simpa using this
  have e1 : w1.cell? ⟨w.heap.size, 0, none⟩ = some (.int .i64 st) := (b1.cell (p := ⟨w.heap.size, 0, none⟩) (by simp)).trans (cell_new w _ _ 0)
  have e2 : w1.cell? ⟨w.heap.size, 1, none⟩ = some (.int .i64 cl) := (b1.cell (p := ⟨w.heap.size, 1, none⟩) (by simp)).trans (cell_new w _ _ 1)
  have e3 : w1.cell? ⟨w.heap.size, 2, none⟩ = some (.int .i64 tr) := (b1.cell (p := ⟨w.heap.size, 2, none⟩) (by simp)).trans (cell_new w _ _ 2)
  have e4 : w1.cell? ⟨w.heap.size, 3, none⟩ = some (.slice I L c) := (b1.cell (p := ⟨w.heap.size, 3, none⟩) (by simp)).trans (cell_new w _ _ 3)
  have e5 : w1.cell? ⟨w.heap.size, 4, none⟩ = some (.slice T M c') := (b1.cell (p := ⟨w.heap.size, 4, none⟩) (by simp)).trans (cell_new w _ _ 4)
  clear b1 hb1
  go_wp2_with fail
  refine (HNW.out w1).mono ?_
  rintro _ w2 ⟨rfl, hw2⟩
  rw [← hw2] at HS1
  have HB2 : Hid (Below w.heap.size w w2) := by
    show Below _ _ _
    rw [hw2]
    exact HB1.out.trans (((Below.refl _ _).alloc (Nat.le_refl _) _).mono HB1.out.size)
  have k2 : ∀ j, w2.cell? ⟨w.heap.size, j, none⟩ = w1.cell? ⟨w.heap.size, j, none⟩ := fun j => by
    rw [hw2]
    exact World.cell?_of_block (heap_alloc_old w1 _ (by show w.heap.size < w1.heap.size; have := HZ1.out; omega))
  replace e1 := (k2 0).trans e1
  replace e2 := (k2 1).trans e2
  replace e3 := (k2 2).trans e3
  replace e4 := (k2 3).trans e4
  replace e5 := (k2 4).trans e5
  clear hw2 k2
  go_wp2_with fail
  refine HS1.out.mono ?_
  rintro _ w3 ⟨rfl, hw3, hf3⟩
  rw [List.nil_append] at hw3
  obtain ⟨v3, hv3⟩ := hw3
  have HTX := Lib.hid (text_any w1.heap.size w1.heap.size 16777216 tx v3 w3 hv3)
  have HB3 : Hid (Below w.heap.size w w3) := by
    refine HB2.out.trans ⟨hf3.fr.os, hf3.fr.tape, hf3.fr.output, hf3.fr.size, fun i hi => hf3.fr.block i (by have := HB2.out.size; omega) (by have := HB1.out.size; omega) (by have := HB1.out.size; omega)⟩
  clear hv3 hf3
  go_wp2_with fail
  refine HTX.out.mono ?_
  rintro _ w4 ⟨rfl, rfl⟩
  go_wp2_with fail
  refine (HWR.out w3).mono ?_
  rintro _ w5 ⟨rfl, b5⟩
  have HB5 := Lib.hid (HB3.out.trans (b5.mono HB3.out.size))
  clear b5
  go_wp2_with fail
  go_ret2
  exact ⟨rfl, HB5.out⟩
end Go.Proofs.YtpgkhodofhnpnaaDoor
