/-
  CONTRACTS OF LAYER 6: Cost of package setup, by its function over any list; Check at any setup that lies in memory. Conditions: as XUe's.
-/
import Derived.Test.YtnkdaehmdcpafaaDoorUe
namespace Go.Proofs.YtnkdaehmdcpafaaDoor
open Go.RowKit
set_option linter.unusedVariables false
theorem max_int (m x : Nat) : (if (m : Int) < (x : Int) then (x : Int) else (m : Int)) = ((max m x : Nat) : Int) := by
  split <;> omega
theorem max_intv (m x : Nat) : (if (m : Int) < (x : Int) then Value.int .i64 (x : Int) else Value.int .i64 (m : Int)) = Value.int .i64 ((max m x : Nat) : Int) := by
  rw [← max_int]
  split <;> rfl
set_option maxRecDepth 100000 in
theorem great_txs (d : Nat) (l : List (List St)) (A : Option Addr) (c lo hi : Nat) (w : World) (hk : Txs w lo hi d A l) (hhi : hi ≤ w.heap.size) (hl : l.length ≤ 9223372036854775807) :
    Calls Tryd.prog 43 #[.slice A l.length c, .func (.func 26) #[] #[]] w fun e w' => e = .returned (.int .i64 (costT d l : Nat)) ∧ Below w.heap.size w w' := by
  have HK := Lib.hid hk
  have HL := Lib.hid (fun k m h => mostL_drop (costX d) l k m h)
  have HLE := Lib.hid (fun tx => costX_le d tx)
  have HV : Hid (costT d l = mostL (costX d) l 0) := rfl
  have HEND : Hid (∀ m, mostL (costX d) (l.drop l.length) m = m) := fun m => by rw [List.drop_length]; rfl
  obtain ⟨n, hn⟩ : ∃ n, n = l.length := ⟨_, rfl⟩
  have HN := Lib.hid hn
  rw [← hn] at hl HEND ⊢
  clear hk hn
  go_enter Tryd.func43, Tryd.ntmps43
  go_wp2_with fail
  go_loopw [5, 10] (fun u i wr => ∃ k m : Nat, k ≤ n ∧ m ≤ 2001 ∧ i = .int .i64 k ∧ u = .int .i64 m ∧ Hid (costT d l = mostL (costX d) (l.drop k) m) ∧ Hid (Below w.heap.size w wr)) (fun _ i _ => n - (intOf i).toNat)
  case atStart => exact ⟨0, 0, by omega, by omega, by go_num, by go_num, HV, Below.refl _ _⟩
  case round =>
    obtain ⟨k, m, hk, hm, rfl, rfl, HW, HB⟩ := hrel
    by_cases hlt : k < n
    · obtain ⟨p, B, c2, rfl, m1, m2, f1, l1, hS⟩ := HK.out.below HB.out hhi k (by have := HN.out; omega)
      obtain ⟨x, hx⟩ : ∃ x, x = l[k]'(by have := HN.out; omega) := ⟨_, rfl⟩
      have hW := HL.out k m (by have := HN.out; omega)
      rw [← hx] at f1 l1 hS hW
      have HC : Hid (Calls Tryd.prog 26 #[.slice B x.length c2] wr fun e w' => e = .returned (.int .i64 (costX d x : Nat)) ∧ Below wr.heap.size wr w') := cost_of d B c2 x lo hi wr hS (by have := HB.out.size; omega) l1
      have hle := HLE.out x
      obtain ⟨y, hy⟩ : ∃ y, y = costX d x := ⟨_, rfl⟩
      rw [← hy] at HC hW hle
      have HW2 := Lib.hid (HW.out.trans hW)
      have hmx := max_intv m y
      have hmx2 := max_int m y
      obtain ⟨q, hq⟩ : ∃ q, q = x.length := ⟨_, rfl⟩
      rw [← hq] at HC f1 l1
      have HME : Hid (max m y ≤ 2001) := by show _ ≤ _; omega
      obtain ⟨z, hz⟩ : ∃ z, z = max m y := ⟨_, rfl⟩
      rw [← hz] at hmx hmx2 HW2 HME
      clear hx hW hS hy hq m1 m2 hz
      go_wp2_with fail
      refine HC.out.mono ?_
      rintro _ w5 ⟨rfl, b5⟩
      have H5 : Hid (Below w.heap.size w w5) := HB.out.trans (b5.mono HB.out.size)
      clear b5
      go_wp2_with fail
      go_roundw
      case rel => exact ⟨k + 1, z, by omega, HME.out, by go_num, by go_num, HW2, H5⟩
      case measure => simp [intOf]; omega
    · have HF : Hid (costT d l = m) := by show _ = _; rw [HW.out, show k = n by omega]; exact HEND.out m
      go_wp2_with fail
      go_ret
      exact ⟨by rw [HF.out]; rfl, HB.out⟩
set_option maxRecDepth 100000 in
theorem costly_any (d : Nat) (l : List (List St)) (A : Option Addr) (c lo hi : Nat) (w : World) (hk : Txs w lo hi d A l) (hhi : hi ≤ w.heap.size) (hl : l.length ≤ 9223372036854775807) :
    Calls Tryd.prog 42 #[.slice A l.length c] w fun e w' => e = .returned (.int .i64 (costT d l : Nat)) ∧ Below w.heap.size w w' := by
  have HC := Lib.hid (great_txs d l A c lo hi w hk hhi hl)
  obtain ⟨y, hy⟩ : ∃ y, y = costT d l := ⟨_, rfl⟩
  rw [← hy] at HC ⊢
  clear hk hy
  go_enter Tryd.func42, Tryd.ntmps42
  go_wp2_with fail
  refine HC.out.mono ?_
  rintro _ w5 ⟨rfl, b5⟩
  go_wp2_with fail
  go_ret
  exact ⟨rfl, b5⟩
set_option maxRecDepth 100000 in
theorem great_thr (d : Nat) (l : List (List (List St))) (A : Option Addr) (c lo hi : Nat) (w : World) (hk : Thr w lo hi d A l) (hhi : hi ≤ w.heap.size) (hl : l.length ≤ 9223372036854775807) :
    Calls Tryd.prog 41 #[.slice A l.length c, .func (.func 42) #[] #[]] w fun e w' => e = .returned (.int .i64 (costA d l : Nat)) ∧ Below w.heap.size w w' := by
  have HK := Lib.hid hk
  have HL := Lib.hid (fun k m h => mostL_drop (costT d) l k m h)
  have HLE := Lib.hid (fun l => costT_le d l)
  have HV : Hid (costA d l = mostL (costT d) l 0) := rfl
  have HEND : Hid (∀ m, mostL (costT d) (l.drop l.length) m = m) := fun m => by rw [List.drop_length]; rfl
  obtain ⟨n, hn⟩ : ∃ n, n = l.length := ⟨_, rfl⟩
  have HN := Lib.hid hn
  rw [← hn] at hl HEND ⊢
  clear hk hn
  go_enter Tryd.func41, Tryd.ntmps41
  go_wp2_with fail
  go_loopw [5, 10] (fun u i wr => ∃ k m : Nat, k ≤ n ∧ m ≤ 2001 ∧ i = .int .i64 k ∧ u = .int .i64 m ∧ Hid (costA d l = mostL (costT d) (l.drop k) m) ∧ Hid (Below w.heap.size w wr)) (fun _ i _ => n - (intOf i).toNat)
  case atStart => exact ⟨0, 0, by omega, by omega, by go_num, by go_num, HV, Below.refl _ _⟩
  case round =>
    obtain ⟨k, m, hk, hm, rfl, rfl, HW, HB⟩ := hrel
    by_cases hlt : k < n
    · obtain ⟨p, B, c2, rfl, m1, m2, f1, l1, hS⟩ := HK.out.below HB.out hhi k (by have := HN.out; omega)
      obtain ⟨x, hx⟩ : ∃ x, x = l[k]'(by have := HN.out; omega) := ⟨_, rfl⟩
      have hW := HL.out k m (by have := HN.out; omega)
      rw [← hx] at f1 l1 hS hW
      have HC : Hid (Calls Tryd.prog 42 #[.slice B x.length c2] wr fun e w' => e = .returned (.int .i64 (costT d x : Nat)) ∧ Below wr.heap.size wr w') := costly_any d x B c2 lo hi wr hS (by have := HB.out.size; omega) l1
      have hle := HLE.out x
      obtain ⟨y, hy⟩ : ∃ y, y = costT d x := ⟨_, rfl⟩
      rw [← hy] at HC hW hle
      have HW2 := Lib.hid (HW.out.trans hW)
      have hmx := max_intv m y
      have hmx2 := max_int m y
      obtain ⟨q, hq⟩ : ∃ q, q = x.length := ⟨_, rfl⟩
      rw [← hq] at HC f1 l1
      have HME : Hid (max m y ≤ 2001) := by show _ ≤ _; omega
      obtain ⟨z, hz⟩ : ∃ z, z = max m y := ⟨_, rfl⟩
      rw [← hz] at hmx hmx2 HW2 HME
      clear hx hW hS hy hq m1 m2 hz
      go_wp2_with fail
      refine HC.out.mono ?_
      rintro _ w5 ⟨rfl, b5⟩
      have H5 : Hid (Below w.heap.size w w5) := HB.out.trans (b5.mono HB.out.size)
      clear b5
      go_wp2_with fail
      go_roundw
      case rel => exact ⟨k + 1, z, by omega, HME.out, by go_num, by go_num, HW2, H5⟩
      case measure => simp [intOf]; omega
    · have HF : Hid (costA d l = m) := by show _ = _; rw [HW.out, show k = n by omega]; exact HEND.out m
      go_wp2_with fail
      go_ret
      exact ⟨by rw [HF.out]; rfl, HB.out⟩
set_option maxRecDepth 100000 in
theorem cost_any6 (d : Nat) (s : Su) (I T : Option Addr) (c c' lo hi : Nat) (w : World) (h : SuAt w lo hi d I T s) (hhi : hi ≤ w.heap.size) :
    Calls Tryd.prog 18 #[.agg #[.int .i64 s.st, .int .i64 s.cl, .int .i64 s.tr, .slice I s.init.length c, .slice T s.thr.length c']] w fun e w' => e = .returned (.int .i64 (costA d s.thr : Nat)) ∧ Below w.heap.size w w' := by
  have hb := sfive_below w s.st s.cl s.tr I s.init.length c T s.thr.length c'
  have HC := Lib.hid (great_thr d s.thr T c' lo hi _ (h.thr.below hb hhi) (by have := hb.size; omega) h.len)
  have HB := Lib.hid hb
  obtain ⟨y, hy⟩ : ∃ y, y = costA d s.thr := ⟨_, rfl⟩
  obtain ⟨m, hm⟩ : ∃ m, m = s.thr.length := ⟨_, rfl⟩
  obtain ⟨n, hn⟩ : ∃ n, n = s.init.length := ⟨_, rfl⟩
  rw [← hy, ← hm, ← hn] at HC
  rw [← hm, ← hn] at HB
  rw [← hy, ← hm, ← hn]
  clear h hb hy hm hn
  obtain ⟨st, cl, tr, ini, thr⟩ := s
  dsimp only at HC HB ⊢
  go_enter Tryd.func18, Tryd.ntmps18
  go_wp2_with fail
  refine HC.out.mono ?_
  rintro _ w5 ⟨rfl, b5⟩
  have H5 := Lib.hid (HB.out.trans (b5.mono HB.out.size))
  clear b5
  go_wp2_with fail
  go_ret
  exact ⟨rfl, H5.out⟩
/-- Whether a setup may be. -/
def okF (d : Nat) (s : Su) : Bool := numF s.st s.cl s.tr s.init.length && (decide (s.thr.length ≤ 6) && thrF d s.thr)
theorem check_any (d : Nat) (s : Su) (I T : Option Addr) (c c' lo hi : Nat) (w : World) (hkd : Kd w) (h : SuAt w lo hi d I T s) (hhi : hi ≤ w.heap.size) (hd : d ≤ 4611686018427387903) :
    Calls Tryd.prog 14 #[.agg #[.int .i64 s.st, .int .i64 s.cl, .int .i64 s.tr, .slice I s.init.length c, .slice T s.thr.length c']] w fun e w' => e = .returned (.int .i64 (errF (okF d s))) ∧ Below w.heap.size w w' :=
  check_of s.st s.cl s.tr I s.init.length c T s.thr.length c' h.ini.len _ w fun W' hW => threads_any d s.thr T c' lo hi W' (hkd.below hW (Nat.le_refl _)) (h.thr.below hW hhi) (by have := hW.size; omega) h.len hd
end Go.Proofs.YtnkdaehmdcpafaaDoor
