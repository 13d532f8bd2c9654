/-
  CONTRACTS OF seesawref06's Ints, Cost and Check (the document's own answers of layer 6), at any setup that lies in memory; the memory that was there stays as it was. Conditions: as they stand.
-/
import Derived.Test.YtnkdaehmdcpafaaDoorUf
import Derived.Test.YtnkdaehmdcpafaaDoorQm
import Derived.Deep.DeepCutAuto
import Derived.Deep.CutBlock
namespace Go.Proofs.YtnkdaehmdcpafaaDoor
open Go.RowKit
set_option linter.unusedVariables false
/-- Whether each transaction is so, by its place. -/
def txsG (f : List St → Int → Bool) : List (List St) → Nat → Bool
  | [], _ => true
  | x :: r, n => f x n && txsG f r (n + 1)
def thrG (f : List St → Int → Bool) : List (List (List St)) → Bool
  | [] => true
  | x :: r => decide (x.length ≤ 6) && (txsG f x 0 && thrG f r)
theorem txsG_drop (f : List St → Int → Bool) (l : List (List St)) (k : Nat) (h : k < l.length) : txsG f (l.drop k) k = (f l[k] k && txsG f (l.drop (k + 1)) (k + 1)) := by
  rw [List.drop_eq_getElem_cons h]
  rfl
theorem thrG_drop (f : List St → Int → Bool) (l : List (List (List St))) (k : Nat) (h : k < l.length) : thrG f (l.drop k) = (decide (l[k].length ≤ 6) && (txsG f l[k] 0 && thrG f (l.drop (k + 1)))) := by
  rw [List.drop_eq_getElem_cons h]
  rfl
theorem txsG_may (d : Nat) : ∀ (l : List (List St)) (n : Nat), (∀ x ∈ l, ∀ n : Int, rmayF d x n = mayF d x n) → txsG (rmayF d) l n = txsF d l n := by
  intro l
  induction l with
  | nil => intro n _; rfl
  | cons x r ih => intro n h; rw [txsG, txsF, h x (List.mem_cons_self ..), ih _ fun y hy => h y (List.mem_cons_of_mem _ hy)]
theorem thrG_may (d : Nat) : ∀ (T : List (List (List St))), (∀ l ∈ T, ∀ x ∈ l, ∀ n : Int, rmayF d x n = mayF d x n) → thrG (rmayF d) T = thrF d T := by
  intro T
  induction T with
  | nil => intro _; rfl
  | cons x r ih => intro h; rw [thrG, thrF, txsG_may d x 0 (h x (List.mem_cons_self ..)), ih fun y hy => h y (List.mem_cons_of_mem _ hy)]
set_option maxRecDepth 100000 in
theorem rints_same (L M : List Int) (A B : Option Addr) (c c' hi hi' : Nat) (w : World) (hA : Ints w hi A L) (hB : Ints w hi' B M) (hhi : hi ≤ w.heap.size) (hhi' : hi' ≤ w.heap.size) :
    Calls Tryd.prog 39 #[.slice A L.length c, .slice B M.length c'] w fun e w' => e = .returned (.bool (decide (L = M))) ∧ Below w.heap.size w w' := by
  have l1 := hA.len
  have l2 := hB.len
  by_cases hl : L.length = M.length
  · have hC := Lib.hid (fun k (h1 : k < L.length) (h2 : k < M.length) => And.intro (hA.cell k h1) (hB.cell k h2))
    have HT := Lib.hid (fun k (hk : k < L.length) => ints_drop (a := L) (b := M) (k := k) hl hk)
    obtain ⟨x, hx⟩ : ∃ x, x = L.length := ⟨_, rfl⟩
    obtain ⟨y, hy⟩ : ∃ y, y = M.length := ⟨_, rfl⟩
    have HX := Lib.hid hx
    have HY := Lib.hid hy
    rw [← hx, ← hy]
    rw [← hx] at l1 hl
    rw [← hy] at hl l2
    have i0 : ((x : Int) != (y : Int)) = false := bne_eq_false_iff_eq.2 (by omega)
    clear hx hy hA hB
    go_enter Tryd.func39, Tryd.ntmps39
    go_wp2_with fail
    go_loopw [5] (fun i wr => ∃ k : Nat, k ≤ x ∧ i = .int .i64 k ∧ Hid (L.take k = M.take k) ∧ Hid (Below w.heap.size w wr)) (fun i _ => x - (intOf i).toNat)
    case atStart => exact ⟨0, by omega, by go_num, rfl, Below.refl _ _⟩
    case round =>
      obtain ⟨k, hk, rfl, HK, hO⟩ := hrel
      by_cases hlt : k < x
      · obtain ⟨⟨p, rfl, m1, d1⟩, ⟨q, rfl, m2, d2⟩⟩ := hC.out k (by have := HX.out; omega) (by have := HY.out; omega)
        have f1 := (hO.out.cell (p := p.add k) (by rw [ad_block]; omega)).trans d1
        have f2 := (hO.out.cell (p := q.add k) (by rw [ad_block]; omega)).trans d2
        have hT := (HT.out k (by have := HX.out; omega) HK.out)
        obtain ⟨u, hu⟩ : ∃ u, u = L[k]'(by have := HX.out; omega) := ⟨_, rfl⟩
        obtain ⟨v, hv⟩ : ∃ v, v = M[k]'(by have := HY.out; omega) := ⟨_, rfl⟩
        rw [← hu] at f1
        rw [← hv] at f2
        rw [← hu, ← hv] at hT
        have HT2 := Lib.hid hT
        clear d1 d2 hu hv hC hT m1 m2
        by_cases huv : u = v
        · have i2 : (u != v) = false := bne_eq_false_iff_eq.2 huv
          have HN : Hid (L.take (k + 1) = M.take (k + 1)) := HT2.out.2 huv
          clear huv
          go_wp2_with fail
          go_quiet (fail)
          go_wp2_with fail
          go_roundw
          case rel => exact ⟨k + 1, by omega, by go_num, HN, hO.out.trans ((drewN_below2 wr _).mono hO.out.size)⟩
          case measure => simp [intOf]; omega
        · have i2 : (u != v) = true := bne_iff_ne.2 huv
          have HN : Hid (L ≠ M) := fun h => huv (HT2.out.1 (by rw [h]))
          clear huv
          go_wp2_with fail
          go_quiet (fail)
          go_wp2_with fail
          go_ret
          exact ⟨by rw [decide_eq_false HN.out]; rfl, hO.out.trans ((drewN_below2 wr _).mono hO.out.size)⟩
      · have HN : Hid (L = M) := by
          have h1 := HK.out
          have h2 := HX.out
          have h3 := HY.out
          rw [List.take_of_length_le (by omega), List.take_of_length_le (by omega)] at h1
          exact h1
        clear HK HT hC
        go_wp2_with fail
        go_ret
        exact ⟨by rw [decide_eq_true HN.out]; rfl, hO.out⟩
  · have HN : Hid (decide (L = M) = false) := decide_eq_false (fun h => hl (by rw [h]))
    obtain ⟨x, hx⟩ : ∃ x, x = L.length := ⟨_, rfl⟩
    obtain ⟨y, hy⟩ : ∃ y, y = M.length := ⟨_, rfl⟩
    rw [← hx, ← hy]
    rw [← hx] at l1 hl
    rw [← hy] at hl l2
    have i0 : ((x : Int) != (y : Int)) = true := bne_iff_ne.2 (by omega)
    clear hx hy hA hB
    go_enter Tryd.func39, Tryd.ntmps39
    go_wp2_with fail
    go_ret
    exact ⟨by rw [HN.out]; rfl, Below.refl _ _⟩
set_option maxRecDepth 100000 in
set_option maxHeartbeats 4000000 in
theorem rcost6_any (d : Nat) (s : Su) (I T : Option Addr) (c c' lo hi : Nat) (w : World) (h : SuAt w lo hi d I T s) (hhi : hi ≤ w.heap.size) :
    Calls Tryd.prog 19 #[.agg #[.int .i64 s.st, .int .i64 s.cl, .int .i64 s.tr, .slice I s.init.length c, .slice T s.thr.length c']] w fun e w' => e = .returned (.int .i64 (costA d s.thr : Nat)) ∧ Below w.heap.size w w' := by
  have b0 := sfive_below w s.st s.cl s.tr I s.init.length c T s.thr.length c'
  have l2 := h.len
  have HK := Lib.hid (fun W' (h' : Below w.heap.size w W') => h.thr.below h' hhi)
  have HF5 := Lib.hid (fun W' (h' : Below (w.heap.size + 1) (w.alloc (.cells #[.int .i64 s.st, .int .i64 s.cl, .int .i64 s.tr, .slice I s.init.length c, .slice T s.thr.length c'] 25)) W') => (SFive.new w s.st s.cl s.tr I s.init.length c T s.thr.length c').below h' (by omega))
  have HB := Lib.hid b0
  have HEND : Hid (∀ m, mostL (costT d) (s.thr.drop s.thr.length) m = m) := fun m => by rw [List.drop_length]; rfl
  have HD2 := Lib.hid (fun k m h => mostL_drop (costT d) s.thr k m h)
  obtain ⟨st, cl, tr, ini, thr⟩ := s
  dsimp only at *
  have HV0 : Hid (costA d thr = mostL (costT d) (thr.drop 0) 0) := rfl
  obtain ⟨CA, hCA⟩ : ∃ C, C = costA d thr := ⟨_, rfl⟩
  rw [← hCA] at HV0 ⊢
  obtain ⟨M, hM⟩ : ∃ M, M = thr.length := ⟨_, rfl⟩
  have HM := Lib.hid hM
  obtain ⟨n, hn⟩ : ∃ n, n = ini.length := ⟨_, rfl⟩
  rw [← hM] at HF5 HB HEND l2 ⊢
  rw [← hn] at HF5 HB ⊢
  obtain ⟨W0, hW0⟩ : ∃ W, W = w.alloc (.cells #[.int .i64 st, .int .i64 cl, .int .i64 tr, .slice I n c, .slice T M c'] 25) := ⟨_, rfl⟩
  have hz0 : W0.heap.size = w.heap.size + 1 := by rw [hW0]; simp
  rw [← hW0] at HF5 HB
  have HW0 := Lib.hid hW0
  have HZ0 := Lib.hid hz0
  clear h hM hn b0 hW0 hz0 hCA
  go_enter Tryd.func19, Tryd.ntmps19
  go_wp2_with fail
  rw [← HW0.out]
  go_loopw [3, 4] (fun a i wr => ∃ k m : Nat, k ≤ M ∧ m ≤ 2001 ∧ i = .int .i64 k ∧ a = .int .i64 m ∧ Hid (CA = mostL (costT d) (thr.drop k) m) ∧ Hid (Below (w.heap.size + 1) W0 wr)) (fun _ i _ => M - (intOf i).toNat)
  case atStart => exact ⟨0, 0, by omega, by omega, by go_num, by go_num, HV0, Below.refl _ _⟩
  case round =>
    obtain ⟨k, m, hk, hm, rfl, rfl, HW, HX⟩ := hrel
    have f4 := (HF5.out wr HX.out).c4
    by_cases hlt : k < M
    · have hB0 : Below w.heap.size w wr := HB.out.trans (HX.out.mono (by omega))
      obtain ⟨p, B, c2, rfl, m1, m2, g0, l3, hX⟩ := HK.out w (Below.refl _ _) k (by have := HM.out; omega)
      obtain ⟨l, hl⟩ : ∃ l, l = thr[k]'(by have := HM.out; omega) := ⟨_, rfl⟩
      have hD2 := HD2.out k m (by have := HM.out; omega)
      rw [← hl] at l3 hX hD2 g0
      have HXX := Lib.hid (fun W' (h' : Below w.heap.size w W') => hX.below h' hhi)
      have HDM := Lib.hid (fun k m h => mostL_drop (costX d) l k m h)
      have HENDX : Hid (∀ m, mostL (costX d) (l.drop l.length) m = m) := fun m => by rw [List.drop_length]; rfl
      have HIN : Hid (CA = mostL (costT d) (thr.drop (k + 1)) (mostL (costX d) (l.drop 0) m)) := by
        show _ = _
        rw [HW.out, hD2, show l.drop 0 = l from rfl, mostL_max (costX d) l m]
        rfl
      obtain ⟨J, hJ⟩ : ∃ J, J = l.length := ⟨_, rfl⟩
      have HJ := Lib.hid hJ
      rw [← hJ] at g0 l3 HENDX
      have HG0 := Lib.hid (And.intro g0 (show p.block < w.heap.size by omega))
      clear hl hD2 hX hJ m1 m2 g0 HW hB0
      have k1 : (k : Int) < (M : Int) := by omega
      go_wp2_with fail
      go_loopw [3, 5] (fun a i wr => ∃ j m : Nat, j ≤ J ∧ m ≤ 2001 ∧ i = .int .i64 j ∧ a = .int .i64 m ∧ Hid (CA = mostL (costT d) (thr.drop (k + 1)) (mostL (costX d) (l.drop j) m)) ∧ Hid (Below (w.heap.size + 1) W0 wr)) (fun _ i _ => J - (intOf i).toNat)
      case atStart => exact ⟨0, m, by omega, hm, by go_num, by go_num, HIN, HX⟩
      case round =>
        obtain ⟨j, mm, hj, hmm, rfl, rfl, HW, HX⟩ := hrel
        have f4 := (HF5.out wr HX.out).c4
        have hB0 : Below w.heap.size w wr := HB.out.trans (HX.out.mono (by omega))
        have g1 := (hB0.cell (p := p.add k) (by rw [ad_block]; exact HG0.out.2)).trans HG0.out.1
        by_cases hlj : j < J
        · obtain ⟨p2, B2, c3, rfl, m1, m2, g2, l4, hS⟩ := HXX.out wr hB0 j (by have := HJ.out; omega)
          obtain ⟨x, hx⟩ : ∃ x, x = l[j]'(by have := HJ.out; omega) := ⟨_, rfl⟩
          have hD2 := HDM.out j mm (by have := HJ.out; omega)
          rw [← hx] at g2 l4 hS hD2
          have HC : Hid (Calls Tryd.prog 44 #[.slice B2 x.length c3] wr fun e w' => e = .returned (.int .i64 (costX d x : Nat)) ∧ Below wr.heap.size wr w') := rcost_of d B2 c3 x lo hi wr hS (by have := hB0.size; omega) l4
          have hle := costX_le d x
          obtain ⟨y, hy⟩ : ∃ y, y = costX d x := ⟨_, rfl⟩
          rw [← hy] at HC hD2 hle
          have hmx := max_intv mm y
          have hmx2 := max_int mm y
          have HW2 : Hid (CA = mostL (costT d) (thr.drop (k + 1)) (mostL (costX d) (l.drop (j + 1)) (max mm y))) := by show _ = _; rw [HW.out, hD2]
          obtain ⟨q, hq⟩ : ∃ q, q = x.length := ⟨_, rfl⟩
          rw [← hq] at HC g2
          have HME : Hid (max mm y ≤ 2001) := by show _ ≤ _; omega
          obtain ⟨z, hz⟩ : ∃ z, z = max mm y := ⟨_, rfl⟩
          rw [← hz] at hmx hmx2 HW2 HME
          clear hx hD2 hS hy hq m1 m2 hz l4 HW hB0
          have k2 : (j : Int) < (J : Int) := by omega
          go_wp2_with fail
          refine HC.out.mono ?_
          rintro _ w5 ⟨rfl, b5⟩
          have B5 : Hid (Below (w.heap.size + 1) W0 w5) := HX.out.trans (b5.mono (by have := HX.out.size; have := HZ0.out; omega))
          clear b5 f4 g1 g2
          go_wp2_with fail
          go_roundw
          case rel => exact ⟨j + 1, z, by omega, HME.out, by go_num, by go_num, HW2, B5⟩
          case measure => simp [intOf]; omega
        · have HN : Hid (CA = mostL (costT d) (thr.drop (k + 1)) mm) := by show _ = _; rw [HW.out, show j = J by omega, HENDX.out]
          clear HW hB0
          go_wp2_with fail
          go_roundw
          case rel => exact ⟨k + 1, mm, by omega, hmm, by go_num, by go_num, HN, HX⟩
          case measure => simp [intOf]; omega
    · have HF : Hid (CA = m) := by show _ = _; rw [HW.out, show k = M by omega]; exact HEND.out m
      have HBB : Hid (Below w.heap.size w wr) := HB.out.trans (HX.out.mono (by omega))
      go_wp2_with fail
      go_ret
      exact ⟨by rw [HF.out]; rfl, HBB.out⟩
set_option maxRecDepth 100000 in
set_option maxHeartbeats 4000000 in
/-- Check, off what May tells. -/
theorem rcheck6_any (d : Nat) (s : Su) (I T : Option Addr) (c c' lo hi : Nat) (w : World) (h : SuAt w lo hi d I T s) (hhi : hi ≤ w.heap.size) (f : List St → Int → Bool)
    (hmay : ∀ l ∈ s.thr, ∀ x ∈ l, ∀ (B : Option Addr) (cb : Nat) (n : Int) (W' : World), -9223372036854775808 ≤ n → n < 9223372036854775808 → SKids W' lo hi d B x → hi ≤ W'.heap.size → Calls Tryd.prog 35 #[.slice B x.length cb, .int .i64 n] W' fun e w' => e = .returned (.bool (f x n)) ∧ Below W'.heap.size W' w') :
    Calls Tryd.prog 15 #[.agg #[.int .i64 s.st, .int .i64 s.cl, .int .i64 s.tr, .slice I s.init.length c, .slice T s.thr.length c']] w fun e w' => e = .returned (.int .i64 (errF (numF s.st s.cl s.tr s.init.length && (decide (s.thr.length ≤ 6) && thrG f s.thr)))) ∧ Below w.heap.size w w' := by
  have b0 := sfive_below w s.st s.cl s.tr I s.init.length c T s.thr.length c'
  have l1 := h.ini.len
  have l2 := h.len
  have HK := Lib.hid (fun W' (h' : Below w.heap.size w W') => h.thr.below h' hhi)
  have HF5 := Lib.hid (fun W' (h' : Below (w.heap.size + 1) (w.alloc (.cells #[.int .i64 s.st, .int .i64 s.cl, .int .i64 s.tr, .slice I s.init.length c, .slice T s.thr.length c'] 25)) W') => (SFive.new w s.st s.cl s.tr I s.init.length c T s.thr.length c').below h' (by omega))
  have HB := Lib.hid b0
  have HEND : Hid (thrG f (s.thr.drop s.thr.length) = true) := by show _ = _; rw [List.drop_length]; rfl
  have HD1 := Lib.hid (fun k h => thrG_drop f s.thr k h)
  have HMAY := Lib.hid hmay
  obtain ⟨st, cl, tr, ini, thr⟩ := s
  dsimp only at *
  have HV0 : Hid (thrG f thr = thrG f (thr.drop 0)) := rfl
  obtain ⟨TV, hTV⟩ : ∃ C, C = thrG f thr := ⟨_, rfl⟩
  rw [← hTV] at HV0 ⊢
  obtain ⟨M, hM⟩ : ∃ M, M = thr.length := ⟨_, rfl⟩
  have HM := Lib.hid hM
  obtain ⟨n, hn⟩ : ∃ n, n = ini.length := ⟨_, rfl⟩
  rw [← hM] at HF5 HB HEND l2 ⊢
  rw [← hn] at HF5 HB l1 ⊢
  obtain ⟨OK, hOK⟩ : ∃ b, b = (numF st cl tr n && (decide (M ≤ 6) && TV)) := ⟨_, rfl⟩
  rw [← hOK]
  have HOK := Lib.hid hOK
  obtain ⟨W0, hW0⟩ : ∃ W, W = w.alloc (.cells #[.int .i64 st, .int .i64 cl, .int .i64 tr, .slice I n c, .slice T M c'] 25) := ⟨_, rfl⟩
  have hz0 : W0.heap.size = w.heap.size + 1 := by rw [hW0]; simp
  have hn0 : SFive W0 w.heap.size st cl tr I n c T M c' := by rw [hW0]; exact SFive.new w st cl tr I n c T M c'
  rw [← hW0] at HF5 HB
  have HW0 := Lib.hid hW0
  have HZ0 := Lib.hid hz0
  have e0 := hn0.c0
  have e1 := hn0.c1
  have e2 := hn0.c2
  have e3 := hn0.c3
  have e4 := hn0.c4
  clear h hM hn b0 hW0 hz0 hTV hmay hOK hn0
  go_enter Tryd.func15, Tryd.ntmps15
  go_upto_region 1 with fail
  rw [← HW0.out]
  by_cases q0 : (n : Int) < 1
  case pos =>
    have HO : Hid (OK = false) := by
      show _ = _
      rw [HOK.out]
      cases hb : (numF st cl tr n && (decide (M ≤ 6) && TV)) with
      | false => rfl
      | true =>
        simp only [numF, inF, Bool.and_eq_true, decide_eq_true_eq] at hb
        omega
    clear l1 l2
    go_wp2_with fail
    go_ret
    exact ⟨by rw [HO.out]; rfl, HB.out⟩
  by_cases q1 : 32 < (n : Int)
  case pos =>
    have HO : Hid (OK = false) := by
      show _ = _
      rw [HOK.out]
      cases hb : (numF st cl tr n && (decide (M ≤ 6) && TV)) with
      | false => rfl
      | true =>
        simp only [numF, inF, Bool.and_eq_true, decide_eq_true_eq] at hb
        omega
    clear l1 l2
    go_wp2_with fail
    go_ret
    exact ⟨by rw [HO.out]; rfl, HB.out⟩
  by_cases q2 : st < 1
  case pos =>
    have HO : Hid (OK = false) := by
      show _ = _
      rw [HOK.out]
      cases hb : (numF st cl tr n && (decide (M ≤ 6) && TV)) with
      | false => rfl
      | true =>
        simp only [numF, inF, Bool.and_eq_true, decide_eq_true_eq] at hb
        omega
    clear l1 l2
    go_wp2_with fail
    go_ret
    exact ⟨by rw [HO.out]; rfl, HB.out⟩
  by_cases q3 : (n : Int) < st
  case pos =>
    have HO : Hid (OK = false) := by
      show _ = _
      rw [HOK.out]
      cases hb : (numF st cl tr n && (decide (M ≤ 6) && TV)) with
      | false => rfl
      | true =>
        simp only [numF, inF, Bool.and_eq_true, decide_eq_true_eq] at hb
        omega
    clear l1 l2
    go_wp2_with fail
    go_ret
    exact ⟨by rw [HO.out]; rfl, HB.out⟩
  by_cases q4 : cl < 0
  case pos =>
    have HO : Hid (OK = false) := by
      show _ = _
      rw [HOK.out]
      cases hb : (numF st cl tr n && (decide (M ≤ 6) && TV)) with
      | false => rfl
      | true =>
        simp only [numF, inF, Bool.and_eq_true, decide_eq_true_eq] at hb
        omega
    clear l1 l2
    go_wp2_with fail
    go_ret
    exact ⟨by rw [HO.out]; rfl, HB.out⟩
  by_cases q5 : 1099511627776 < cl
  case pos =>
    have HO : Hid (OK = false) := by
      show _ = _
      rw [HOK.out]
      cases hb : (numF st cl tr n && (decide (M ≤ 6) && TV)) with
      | false => rfl
      | true =>
        simp only [numF, inF, Bool.and_eq_true, decide_eq_true_eq] at hb
        omega
    clear l1 l2
    go_wp2_with fail
    go_ret
    exact ⟨by rw [HO.out]; rfl, HB.out⟩
  by_cases q6 : tr < 1
  case pos =>
    have HO : Hid (OK = false) := by
      show _ = _
      rw [HOK.out]
      cases hb : (numF st cl tr n && (decide (M ≤ 6) && TV)) with
      | false => rfl
      | true =>
        simp only [numF, inF, Bool.and_eq_true, decide_eq_true_eq] at hb
        omega
    clear l1 l2
    go_wp2_with fail
    go_ret
    exact ⟨by rw [HO.out]; rfl, HB.out⟩
  by_cases q7 : 1000 < tr
  case pos =>
    have HO : Hid (OK = false) := by
      show _ = _
      rw [HOK.out]
      cases hb : (numF st cl tr n && (decide (M ≤ 6) && TV)) with
      | false => rfl
      | true =>
        simp only [numF, inF, Bool.and_eq_true, decide_eq_true_eq] at hb
        omega
    clear l1 l2
    go_wp2_with fail
    go_ret
    exact ⟨by rw [HO.out]; rfl, HB.out⟩
  by_cases q8 : 6 < (M : Int)
  case pos =>
    have HO : Hid (OK = false) := by
      show _ = _
      rw [HOK.out]
      cases hb : (numF st cl tr n && (decide (M ≤ 6) && TV)) with
      | false => rfl
      | true =>
        simp only [numF, inF, Bool.and_eq_true, decide_eq_true_eq] at hb
        omega
    clear l1 l2
    go_wp2_with fail
    go_ret
    exact ⟨by rw [HO.out]; rfl, HB.out⟩
  have HOT : Hid (OK = TV) := by
    show _ = _
    rw [HOK.out]
    have h1 : numF st cl tr n = true := by
      simp only [numF, inF, Bool.and_eq_true, decide_eq_true_eq]
      omega
    rw [h1, decide_eq_true (by omega : M ≤ 6)]
    rfl
  clear l1
  go_wp2_with fail
  clear e0 e1 e2 e3 e4 q0 q1 q2 q3 q4 q5 q6 q7
  go_loopw [3] (fun i wr => ∃ k : Nat, k ≤ M ∧ i = .int .i64 k ∧ Hid (TV = thrG f (thr.drop k)) ∧ Hid (Below (w.heap.size + 1) W0 wr)) (fun i _ => M - (intOf i).toNat)
  case atStart => exact ⟨0, by omega, by go_num, HV0, Below.refl _ _⟩
  case round =>
    obtain ⟨k, hk, rfl, HW, HX⟩ := hrel
    have f4 := (HF5.out wr HX.out).c4
    have hB0 : Below w.heap.size w wr := HB.out.trans (HX.out.mono (by omega))
    by_cases hlt : k < M
    · have hlt2 : k < thr.length := by have := HM.out; omega
      obtain ⟨p, B, c2, rfl, m1, m2, g0, l3, hX⟩ := HK.out w (Below.refl _ _) k hlt2
      have g1 := (hB0.cell (p := p.add k) (by rw [ad_block]; omega)).trans g0
      have hmm := HMAY.out _ (List.getElem_mem hlt2)
      obtain ⟨l, hl⟩ : ∃ l, l = thr[k] := ⟨_, rfl⟩
      have hD := HD1.out k hlt2
      rw [← hl] at g1 l3 hX hD g0 hmm
      have HMX := Lib.hid hmm
      have HXX := Lib.hid (fun W' (h' : Below w.heap.size w W') => hX.below h' hhi)
      have HDX := Lib.hid (fun k h => txsG_drop f l k h)
      have HENDX : Hid (∀ n, txsG f (l.drop l.length) n = true) := fun n => by rw [List.drop_length]; rfl
      have HIN : Hid (TV = (decide (l.length ≤ 6) && (txsG f (l.drop 0) 0 && thrG f (thr.drop (k + 1))))) := HW.out.trans hD
      obtain ⟨J, hJ⟩ : ∃ J, J = l.length := ⟨_, rfl⟩
      have HJ := Lib.hid hJ
      rw [← hJ] at g0 g1 l3 HENDX HIN
      have HG0 := Lib.hid (And.intro g0 (show p.block < w.heap.size by omega))
      have HBB := Lib.hid hB0
      clear hl hD hX hJ m1 m2 g0 HW hB0 hmm
      have k1 : (k : Int) < (M : Int) := by omega
      by_cases h6 : 6 < J
      · have HF : Hid (TV = false) := by show _ = _; rw [HIN.out, decide_eq_false (by omega)]; rfl
        have i3 : (6 : Int) < (J : Int) := by omega
        go_wp2_with fail
        go_ret
        exact ⟨by rw [HOT.out, HF.out]; rfl, HBB.out⟩
      have HIN2 : Hid (TV = (txsG f (l.drop 0) 0 && thrG f (thr.drop (k + 1)))) := by show _ = _; rw [HIN.out, decide_eq_true (by omega : J ≤ 6)]; rfl
      have i3 : ¬ (6 : Int) < (J : Int) := by omega
      clear HIN h6
      go_wp2_with fail
      go_loopw [4] (fun i wr => ∃ j : Nat, j ≤ J ∧ i = .int .i64 j ∧ Hid (TV = (txsG f (l.drop j) j && thrG f (thr.drop (k + 1)))) ∧ Hid (Below (w.heap.size + 1) W0 wr)) (fun i _ => J - (intOf i).toNat)
      case atStart => exact ⟨0, by omega, by go_num, HIN2, HX⟩
      case round =>
        obtain ⟨j, hj, rfl, HW, HX⟩ := hrel
        have f4 := (HF5.out wr HX.out).c4
        have hB0 : Below w.heap.size w wr := HB.out.trans (HX.out.mono (by omega))
        have g1 := (hB0.cell (p := p.add k) (by rw [ad_block]; exact HG0.out.2)).trans HG0.out.1
        by_cases hlj : j < J
        · have hlj2 : j < l.length := by have := HJ.out; omega
          obtain ⟨p2, B2, c3, rfl, m1, m2, g2, l4, hS⟩ := HXX.out wr hB0 j hlj2
          have hC := HMX.out _ (List.getElem_mem hlj2) B2 c3 (j : Int) wr (by omega) (by omega) hS (by have := hB0.size; omega)
          obtain ⟨x, hx⟩ : ∃ x, x = l[j] := ⟨_, rfl⟩
          have hD := HDX.out j hlj2
          rw [← hx] at g2 hD hC
          obtain ⟨b, hb⟩ : ∃ b, b = f x (j : Int) := ⟨_, rfl⟩
          rw [← hb] at hC hD
          rw [hD] at HW
          obtain ⟨q, hq⟩ : ∃ q, q = x.length := ⟨_, rfl⟩
          rw [← hq] at hC g2
          have HC := Lib.hid hC
          clear hx hD hS hb hq m1 m2 l4 hB0 hC
          have k2 : (j : Int) < (J : Int) := by omega
          go_wp2_with fail
          refine HC.out.mono ?_
          rintro _ w5 ⟨rfl, b5⟩
          have B5 : Hid (Below (w.heap.size + 1) W0 w5) := HX.out.trans (b5.mono (by have := HX.out.size; have := HZ0.out; omega))
          clear b5 f4 g1 g2
          cases b with
          | false =>
            have HF : Hid (TV = false) := HW
            go_wp2_with fail
            go_ret
            exact ⟨by rw [HOT.out, HF.out]; rfl, HB.out.trans (B5.out.mono (by omega))⟩
          | true =>
            have HF : Hid (TV = (txsG f (l.drop (j + 1)) (j + 1) && thrG f (thr.drop (k + 1)))) := HW
            go_wp2_with fail
            go_roundw
            case rel => exact ⟨j + 1, by omega, by go_num, HF, B5⟩
            case measure => simp [intOf]; omega
        · have HN : Hid (TV = thrG f (thr.drop (k + 1))) := by show _ = _; rw [HW.out, show j = J by omega, HENDX.out]; rfl
          clear HW hB0
          go_wp2_with fail
          go_roundw
          case rel => exact ⟨k + 1, by omega, by go_num, HN, HX⟩
          case measure => simp [intOf]; omega
    · have HF : Hid (TV = true) := by show _ = _; rw [HW.out, show k = M by omega]; exact HEND.out
      have HBB := Lib.hid hB0
      clear hB0
      go_wp2_with fail
      go_ret
      exact ⟨by rw [HOT.out, HF.out]; rfl, HBB.out⟩
end Go.Proofs.YtnkdaehmdcpafaaDoor
