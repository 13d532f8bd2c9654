/-
  CONTRACT OF seesawref12.Parse: the event of any text, as package event's. Conditions: at most 300 letters.
-/
import Derived.Test.YtfbnigikofidoaaDoorYj
namespace Go.Proofs.YtfbnigikofidoaaDoor
set_option maxRecDepth 100000
open Go.RowKit
set_option linter.unusedVariables false
theorem parseR_no {l : List UInt8} (h : parseF l = (ev0, 4)) : parseR l = .tuple #[.agg #[.int .u8 0, .int .i64 0, .int .i64 0, .int .i64 0, .int .i64 0, .int .i64 0, .int .u8 0], .int .i64 4] := by
  unfold parseR
  rw [h]
  rfl
def Post (l : List UInt8) (w : World) (r : Ending) (w' : World) : Prop := r = .returned (parseR l) ∧ Below w.heap.size w w'
theorem splitF_pos (l : List UInt8) : 0 < (splitF l).length := by unfold splitF; simp
theorem splitF_len (l : List UInt8) : ∀ x ∈ splitF l, x.length ≤ l.length := by
  have key : ∀ (l : List UInt8) (q : List (List UInt8) × List UInt8) (N : Nat), (∀ x ∈ q.1, x.length ≤ N) → q.2.length + l.length ≤ N → (∀ x ∈ (l.foldl spStep q).1, x.length ≤ N) ∧ (l.foldl spStep q).2.length ≤ N := by
    intro l
    induction l with
    | nil => intro q N h1 h2; exact ⟨h1, by simpa using h2⟩
    | cons c r ih =>
      intro q N h1 h2
      simp only [List.length_cons] at h2
      rw [List.foldl_cons]
      unfold spStep
      split
      · refine ih _ N (fun x hx => ?_) (by simp; omega)
        rcases List.mem_append.1 hx with hx | hx
        · exact h1 x hx
        · rw [List.mem_singleton] at hx
          subst hx
          omega
      · refine ih _ N h1 (by simp; omega)
  obtain ⟨k1, k2⟩ := key l ([], []) l.length (by simp) (by simp)
  intro x hx
  unfold splitF at hx
  rcases List.mem_append.1 hx with hx | hx
  · exact k1 x hx
  · rw [List.mem_singleton] at hx
    subst hx
    exact k2
set_option maxHeartbeats 8000000 in
theorem rparse_any (s : ByteArray) (hs : s.size ≤ 300) (w : World) (he : Er w) :
    Calls Tryd.prog 8 #[.string s] w (Post s.data.toList w) := by
  have hl : s.data.toList.length = s.size := by rw [Array.length_toList]; rfl
  have HSP := Lib.hid (fun w1 => rsplit_any s (by omega) w1)
  have HER := Lib.hid he
  have HWL := Lib.hid (fun x hx => Nat.le_trans (splitF_len s.data.toList x hx) (by omega : s.data.toList.length ≤ 300))
  obtain ⟨n, hn⟩ : ∃ n, n = (splitF s.data.toList).length := ⟨_, rfl⟩
  rw [← hn] at HSP
  have HN := Lib.hid hn
  clear hn he hl
  go_enter Tryd.func8, Tryd.ntmps8
  go_wp2_with fail
  refine (HSP.out _).mono ?_
  rintro _ w1 ⟨g, c, rfl, b1, ⟨hln, hgl⟩, hcells⟩
  have q2 : w1.heap[w.heap.size]? = some (.cells #[.int .u8 0, .int .i64 0, .int .i64 0, .int .i64 0, .int .i64 0, .int .i64 0, .int .u8 0] 23 (0, 0)) := (b1.block _ (by simp)).trans (World.alloc_heap_new w _)
  have B1 : Hid (Below w.heap.size w w1) := by
    refine Lib.hid (Below.trans (B := w.heap.size) ?_ (b1.mono (by simp)))
    go_grown
  have Q1 := Lib.hid q2
  have HC := Lib.hid hcells
  have hgl' : w.heap.size < g := by simp at hgl; omega
  clear b1 q2 hcells HSP hgl
  by_cases h2 : n < 2
  · have i1 : (n : Int) < 2 := by omega
    have HR := Lib.hid (parseR_no (parse_few (L := s.data.toList) (by have := HN.out; omega)))
    clear h2
    go_wp2_with (first
      | (refine wpList_store_row rfl _ _ _ rfl w.heap.size #[.int .u8 0, .int .i64 0, .int .i64 0, .int .i64 0, .int .i64 0, .int .i64 0, .int .u8 0] rfl rfl 23 _ Q1.out (by kernel_rfl) rfl (by simp [Value.oneCell']) ?_)
      | fail)
    refine bodyPost_ret (results_ctW rfl _ _ w.heap.size 23 #[.int .u8 0, .int .i64 0, .int .i64 0, .int .i64 0, .int .i64 0, .int .i64 0, .int .u8 0] (0, 0) _ rfl (setRow_heap _ _ _ _ _ _ Q1.out) Tryd.underlying23 rfl (by kernel_rfl)) rfl ⟨?_, below_setRowW B1.out (Nat.le_refl _) _⟩
    rw [HR.out]
    rfl
  · have i1 : 2 ≤ (n : Int) := by omega
    obtain ⟨u0, hu0⟩ : ∃ u, (splitF s.data.toList)[0]? = some u := ⟨_, List.getElem?_eq_getElem (by have := HN.out; omega)⟩
    obtain ⟨u1, hu1⟩ : ∃ u, (splitF s.data.toList)[1]? = some u := ⟨_, List.getElem?_eq_getElem (by have := HN.out; omega)⟩
    have c0 := HC.out 0 u0 hu0
    have c1 := HC.out 1 u1 hu1
    have U0 := Lib.hid hu0
    have U1 := Lib.hid hu1
    obtain ⟨K, hK⟩ : ∃ K, K = kindF u1 := ⟨_, rfl⟩
    have hK13 : K ≤ 13 := by rw [hK]; exact kindF_le _
    have HKD : Hid (∀ w1, Below w.heap.size w w1 → Calls Tryd.prog 21 #[.string (bsW u1)] w1 fun r w' => r = .returned (.tuple #[.int .u8 K, .bool (K != 0)]) ∧ w1 = w') := fun w1 hb => by
      have := rkind_any (bsW u1) w1 (HER.out.below hb)
      rwa [bsW_list, ← hK] at this
    have HK := Lib.hid hK
    clear h2 hu0 hu1 hK
    by_cases hk0 : K = 0
    · have HR := Lib.hid (parseR_no (parse_name U1.out (by rw [← HK.out, hk0])))
      subst hk0
      go_wp2_with fail
      refine (HKD.out _ B1.out).mono ?_
      rintro _ w2 ⟨rfl, rfl⟩
      go_wp2_with (first
        | (refine wpList_store_row rfl _ _ _ rfl w.heap.size #[.int .u8 0, .int .i64 0, .int .i64 0, .int .i64 0, .int .i64 0, .int .i64 0, .int .u8 0] rfl rfl 23 _ Q1.out (by kernel_rfl) rfl (by simp [Value.oneCell']) ?_)
        | fail)
      refine bodyPost_ret (results_ctW rfl _ _ w.heap.size 23 #[.int .u8 0, .int .i64 0, .int .i64 0, .int .i64 0, .int .i64 0, .int .i64 0, .int .u8 0] (0, 0) _ rfl (setRow_heap _ _ _ _ _ _ Q1.out) Tryd.underlying23 rfl (by kernel_rfl)) rfl ⟨?_, below_setRowW B1.out (Nat.le_refl _) _⟩
      rw [HR.out]
      rfl
    · have hkb : (K != 0) = true := by simpa using hk0
      rw [hkb] at HKD
      have hgx := there_blockW c0
      have d0 : (w1.alloc (.cells #[.int .i64 0, .int .i64 0] 2)).cell? ⟨g, 0, none⟩ = some (.string (bsW u0)) := (((Below.refl _ w1).alloc (Nat.le_refl _) _).cell (there_blockW c0)).trans c0
      go_wp2_with fail
      refine (HKD.out _ B1.out).mono ?_
      rintro _ w2 ⟨rfl, rfl⟩
      go_wp2_with fail
      obtain ⟨gx, hgx2⟩ : ∃ gx, gx = w1.heap.size := ⟨_, rfl⟩
      obtain ⟨W2, hW2⟩ : ∃ W2, W2 = w1.alloc (.cells #[.int .i64 0, .int .i64 0] 2) := ⟨_, rfl⟩
      have rx : W2.heap[gx]? = some (.cells #[.int .i64 0, .int .i64 0] 2 (0, 0)) := by rw [hW2, hgx2]; exact World.alloc_heap_new w1 _
      have b12 : Below gx w1 W2 := by rw [hW2, hgx2]; exact (Below.refl _ _).alloc (Nat.le_refl _) _
      have hgl2 : w.heap.size < gx := by omega
      have hgg : g < gx := by omega
      have Q2 : Hid (W2.heap[w.heap.size]? = some (.cells #[.int .u8 0, .int .i64 0, .int .i64 0, .int .i64 0, .int .i64 0, .int .i64 0, .int .u8 0] 23 (0, 0))) := row_staysN Q1.out b12 hgl2
      have HC2 : Hid (∀ (k : Nat) (x : List UInt8), (splitF s.data.toList)[k]? = some x → W2.cell? ⟨g, k, none⟩ = some (.string (bsW x))) := fun k x hx => (b12.cell hgg).trans (HC.out k x hx)
      have B2 : Hid (Below w.heap.size w W2) := B1.out.trans (b12.mono (by omega))
      have hgxl : gx < W2.heap.size := (Array.getElem?_eq_some_iff.1 rx).1
      rw [← hW2, ← hgx2]
      clear hW2 hgx2 hgx d0 c0 c1 b12 HC Q1 B1 HKD
      refine (rnumber_any (bsW u0) (by rw [bsW_size]; have := HWL.out u0 (List.mem_of_getElem? U0.out); omega) W2).mono ?_
      rintro _ w3 ⟨th, ok0, rfl, hnum, b3⟩
      rw [bsW_list] at hnum
      have RD0 := Lib.hid (RdOk.start U0.out hnum)
      have B3 : Hid (Below gx W2 w3) := b3.mono (by omega)
      have RX3 : Hid (w3.heap[gx]? = some (.cells #[.int .i64 0, .int .i64 0] 2 (0, 0))) := row_stays rx b3
      have TH := Lib.hid hnum.rng
      clear b3 rx hnum
      go_upto_block 0 with fail
      go_cut [9] (fun okv wx => ∃ (k : Nat) (ok : Bool) (a0 a1 : Int), k ≤ 2 ∧ k + 2 ≤ n ∧ (n ≤ k + 2 ∨ 2 ≤ k) ∧ okv = .bool ok ∧ Hid (RdOk s.data.toList k th a0 a1 ok) ∧ Hid (i64R a0 ∧ i64R a1) ∧ Hid (wx.heap[gx]? = some (.cells #[.int .i64 a0, .int .i64 a1] 2 (0, 0))) ∧ Hid (Below gx W2 wx))
      case first =>
        go_wp2_with fail
        go_loopw [9, 10, 11] (fun okv iv fv wr => ∃ (k : Nat) (ok : Bool) (a0 a1 : Int), k ≤ 2 ∧ k + 2 ≤ n ∧ okv = .bool ok ∧ iv = .int .i64 ((k + 2 : Nat) : Int) ∧ Hid (RdOk s.data.toList k th a0 a1 ok) ∧ Hid (i64R a0 ∧ i64R a1) ∧ Hid (wr.heap[gx]? = some (.cells #[.int .i64 a0, .int .i64 a1] 2 (0, 0))) ∧ Hid (Below gx W2 wr)) (fun _ iv _ _ => 4 - (intOf iv).toNat)
        case atStart => exact ⟨0, ok0, 0, 0, by omega, by omega, rfl, rfl, RD0, ⟨by unfold i64R; omega, by unfold i64R; omega⟩, RX3, B3⟩
        case round =>
          obtain ⟨k, ok, a0, a1, hk2, hkn, rfl, rfl, hrd, hi64, hrx, hB⟩ := hrel
          by_cases hlt : k + 2 < n
          · by_cases hk : k = 2
            · subst hk
              have i4 : (4 : Int) < (n : Int) := by omega
              go_wp2_with fail
              go_meet
              exact ⟨2, ok, a0, a1, by omega, by omega, by omega, rfl, hrd, hi64, hrx, hB⟩
            · obtain rfl | rfl : k = 0 ∨ k = 1 := by omega
              · obtain ⟨u, hu⟩ : ∃ u, (splitF s.data.toList)[2]? = some u := ⟨_, List.getElem?_eq_getElem (by have := HN.out; omega)⟩
                have x0 : wr.cell? ⟨g, 2, none⟩ = some (.string (bsW u)) := (hB.out.cell hgg).trans (HC2.out 2 u hu)
                have HNB := Lib.hid (fun w1 => rnumber_any (bsW u) (by rw [bsW_size]; have := HWL.out u (List.mem_of_getElem? hu); omega) w1)
                have i4 : (2 : Int) < (n : Int) := by omega
                have U := Lib.hid hu
                clear hu hk hlt
                go_wp2_with fail
                refine (HNB.out wr).mono ?_
                rintro _ w4 ⟨y, b, rfl, hnum, b4⟩
                rw [bsW_list] at hnum
                have RDN := Lib.hid (hrd.out.next0 U.out hnum)
                have B4 : Hid (Below gx W2 w4) := hB.out.trans (b4.mono (by have := hB.out.size; omega))
                have RX4 : Hid (w4.heap[gx]? = some (.cells #[.int .i64 a0, .int .i64 a1] 2 (0, 0))) := row_stays hrx.out b4
                have YR := Lib.hid hnum.rng
                have y0 := cell_of_row w4 gx 0 _ _ _ RX4.out
                have y1 := frozen_of_row w4 gx 0 _ _ RX4.out
                clear b4 hnum x0
                cases ok
                all_goals
                  go_wp2_with fail
                  refine ⟨?_, ?measure⟩
                  · exact ⟨1, _, y, a1, by omega, by omega, rfl, by go_num, RDN, ⟨YR.out, hi64.out.2⟩, store_row (v := .int .i64 y) RX4.out rfl, B4.out.setCell (p := ⟨gx, 0, none⟩) (Nat.le_refl _) _⟩
                  case measure => simp [intOf]
              · obtain ⟨u, hu⟩ : ∃ u, (splitF s.data.toList)[3]? = some u := ⟨_, List.getElem?_eq_getElem (by have := HN.out; omega)⟩
                have x0 : wr.cell? ⟨g, 3, none⟩ = some (.string (bsW u)) := (hB.out.cell hgg).trans (HC2.out 3 u hu)
                have HNB := Lib.hid (fun w1 => rnumber_any (bsW u) (by rw [bsW_size]; have := HWL.out u (List.mem_of_getElem? hu); omega) w1)
                have i4 : (3 : Int) < (n : Int) := by omega
                have U := Lib.hid hu
                clear hu hk hlt
                go_wp2_with fail
                refine (HNB.out wr).mono ?_
                rintro _ w4 ⟨y, b, rfl, hnum, b4⟩
                rw [bsW_list] at hnum
                have RDN := Lib.hid (hrd.out.next1 U.out hnum)
                have B4 : Hid (Below gx W2 w4) := hB.out.trans (b4.mono (by have := hB.out.size; omega))
                have RX4 : Hid (w4.heap[gx]? = some (.cells #[.int .i64 a0, .int .i64 a1] 2 (0, 0))) := row_stays hrx.out b4
                have YR := Lib.hid hnum.rng
                have y0 := cell_of_row w4 gx 1 _ _ _ RX4.out
                have y1 := frozen_of_row w4 gx 1 _ _ RX4.out
                clear b4 hnum x0
                cases ok
                all_goals
                  go_wp2_with fail
                  refine ⟨?_, ?measure⟩
                  · exact ⟨2, _, a0, y, by omega, by omega, rfl, by go_num, RDN, ⟨hi64.out.1, YR.out⟩, store_row (v := .int .i64 y) RX4.out rfl, B4.out.setCell (p := ⟨gx, 1, none⟩) (Nat.le_refl _) _⟩
                  case measure => simp [intOf]
          · have e : k + 2 = n := by omega
            rw [e]
            clear e
            go_wp2_with fail
            go_meet
            exact ⟨k, ok, a0, a1, by omega, by omega, by omega, rfl, hrd, hi64, hrx, hB⟩
      case rest =>
        obtain ⟨k, ok, a0, a1, hk2, hkn, hkk, rfl, hrd, hi64, hrx, hB⟩ := hcut
        have B5 : Hid (Below w.heap.size w wc) := B2.out.trans (hB.out.mono (by omega))
        have Q5 : Hid (wc.heap[w.heap.size]? = some (.cells #[.int .u8 0, .int .i64 0, .int .i64 0, .int .i64 0, .int .i64 0, .int .i64 0, .int .u8 0] 23 (0, 0))) := row_staysN Q2.out hB.out hgl2
        clear hB Q2 HC2 RX3 B3 RD0
        by_cases hbad : ok = false ∨ th < 0 ∨ 5 < th
        · have HR := Lib.hid (parseR_no (parse_num hrd.out hbad))
          cases ok with
          | false =>
            clear hbad
            go_wp2_with (first
              | (refine wpList_store_row rfl _ _ _ rfl w.heap.size #[.int .u8 0, .int .i64 0, .int .i64 0, .int .i64 0, .int .i64 0, .int .i64 0, .int .u8 0] rfl rfl 23 _ Q5.out (by kernel_rfl) rfl (by simp [Value.oneCell']) ?_)
              | fail)
            refine bodyPost_ret (results_ctW rfl _ _ w.heap.size 23 #[.int .u8 0, .int .i64 0, .int .i64 0, .int .i64 0, .int .i64 0, .int .i64 0, .int .u8 0] (0, 0) _ rfl (setRow_heap _ _ _ _ _ _ Q5.out) Tryd.underlying23 rfl (by kernel_rfl)) rfl ⟨?_, below_setRowW B5.out (Nat.le_refl _) _⟩
            rw [HR.out]
            rfl
          | true =>
            by_cases hth : th < 0
            · clear hbad
              go_wp2_with (first
                | (refine wpList_store_row rfl _ _ _ rfl w.heap.size #[.int .u8 0, .int .i64 0, .int .i64 0, .int .i64 0, .int .i64 0, .int .i64 0, .int .u8 0] rfl rfl 23 _ Q5.out (by kernel_rfl) rfl (by simp [Value.oneCell']) ?_)
                | fail)
              refine bodyPost_ret (results_ctW rfl _ _ w.heap.size 23 #[.int .u8 0, .int .i64 0, .int .i64 0, .int .i64 0, .int .i64 0, .int .i64 0, .int .u8 0] (0, 0) _ rfl (setRow_heap _ _ _ _ _ _ Q5.out) Tryd.underlying23 rfl (by kernel_rfl)) rfl ⟨?_, below_setRowW B5.out (Nat.le_refl _) _⟩
              rw [HR.out]
              rfl
            · have hth2 : 5 < th := by rcases hbad with h | h | h; cases h; exact absurd h hth; exact h
              have hth3 : 0 ≤ th := by omega
              clear hbad hth
              go_wp2_with (first
                | (refine wpList_store_row rfl _ _ _ rfl w.heap.size #[.int .u8 0, .int .i64 0, .int .i64 0, .int .i64 0, .int .i64 0, .int .i64 0, .int .u8 0] rfl rfl 23 _ Q5.out (by kernel_rfl) rfl (by simp [Value.oneCell']) ?_)
                | fail)
              refine bodyPost_ret (results_ctW rfl _ _ w.heap.size 23 #[.int .u8 0, .int .i64 0, .int .i64 0, .int .i64 0, .int .i64 0, .int .i64 0, .int .u8 0] (0, 0) _ rfl (setRow_heap _ _ _ _ _ _ Q5.out) Tryd.underlying23 rfl (by kernel_rfl)) rfl ⟨?_, below_setRowW B5.out (Nat.le_refl _) _⟩
              rw [HR.out]
              rfl
        · obtain rfl : ok = true := by cases ok <;> simp at hbad ⊢
          have t0 : 0 ≤ th := by simp at hbad; omega
          have t5 : th ≤ 5 := by simp at hbad; omega
          have t05 : ¬ th < 0 := by omega
          have hgc : gx < wc.heap.size := (Array.getElem?_eq_some_iff.1 hrx.out).1
          clear hbad
          have hnn : (splitF s.data.toList).length ≤ k + 2 ∨ 2 ≤ k := by have := HN.out; omega
          have PE : Hid _ := parse_end hrd.out U1.out hnn
          have PW : Hid _ := parse_why hrd.out U1.out hnn
          have hk1 : 1 ≤ K := by omega
          rw [← HK.out] at PE PW
          have BOK : Hid ((K = 10 → 0 ≤ a0 ∧ a0 ≤ 9) → EvOk (buildE K th a0 a1)) := fun h => build_ok K th a0 a1 hK13 t0 t5 hi64.out.1 hi64.out.2 h
          clear hrd hnn hkn hkk hk2 hi64 HK U1 U0 HN TH hln i1 hk0 hkb
          go_upto_block 2 with fail
          obtain ⟨ge, hge⟩ : ∃ ge, ge = wc.heap.size := ⟨_, rfl⟩
          obtain ⟨W4, hW4⟩ : ∃ W4, W4 = wc.alloc (.cells #[.int .u8 K, .int .i64 th, .int .i64 0, .int .i64 0, .int .i64 0, .int .i64 0, .int .u8 0] 23) := ⟨_, rfl⟩
          have re : W4.heap[ge]? = some (.cells #[.int .u8 K, .int .i64 th, .int .i64 0, .int .i64 0, .int .i64 0, .int .i64 0, .int .u8 0] 23 (0, 0)) := by rw [hW4, hge]; exact World.alloc_heap_new wc _
          have b5 : Below wc.heap.size wc W4 := by rw [hW4]; exact (Below.refl _ _).alloc (Nat.le_refl _) _
          have hgg2 : gx < ge := by omega
          have rx : W4.heap[gx]? = some (.cells #[.int .i64 a0, .int .i64 a1] 2 (0, 0)) := row_stays hrx.out b5
          have Q6 : Hid (W4.heap[w.heap.size]? = some (.cells #[.int .u8 0, .int .i64 0, .int .i64 0, .int .i64 0, .int .i64 0, .int .i64 0, .int .u8 0] 23 (0, 0))) := row_stays Q5.out b5
          have B6 : Hid (Below w.heap.size w W4) := B5.out.trans (b5.mono B5.out.size)
          rw [← hW4, ← hge]
          clear hW4 hge b5 hrx Q5 B5 hgc
          go_cut [12] (fun pv wx => pv = .pointer (some ⟨ge, 0, none⟩) ∧ wx.heap[ge]? = some (.cells (evC (buildE K th a0 a1)) 23 (0, 0)) ∧ Below ge W4 wx ∧ (K = 10 → 0 ≤ a0 ∧ a0 ≤ 9))
          case first =>
            have y0 := cell_of_row W4 gx 0 _ _ _ rx
            have y1 := cell_of_row W4 gx 1 _ _ _ rx
            obtain ⟨v0, v1, v2, v3, v4, v5, v6⟩ := evat re
            have f3 := frozen_of_row W4 ge 3 _ _ re
            have f4 := frozen_of_row W4 ge 4 _ _ re
            simp only [List.getElem?_toArray, List.getElem?_cons_zero, List.getElem?_cons_succ] at y0 y1
            clear PE BOK HER HWL
            have : K = 1 ∨ K = 2 ∨ K = 3 ∨ K = 4 ∨ K = 5 ∨ K = 6 ∨ K = 7 ∨ K = 8 ∨ K = 9 ∨ K = 10 ∨ K = 11 ∨ K = 12 ∨ K = 13 := by omega
            rcases this with rfl | rfl | rfl | rfl | rfl | rfl | rfl | rfl | rfl | rfl | rfl | rfl | rfl
            · go_wp2_with fail
              refine regP20 rfl _ (by simp) W4 gx ge hgg2 a0 a1 _ th rx re rfl rfl ?_
              intro w6 b6 r6
              simp only [regP20_ds, putAll, List.setIfInBounds_toArray, List.set_cons_succ, List.set_cons_zero]
              go_wp2_with fail
              go_meet
              exact ⟨rfl, r6, b6, fun h => by omega⟩
            · go_wp2_with fail
              refine regP22 rfl _ (by simp) W4 gx ge hgg2 a0 a1 _ th rx re rfl rfl ?_
              intro w6 b6 r6
              simp only [regP22_ds, putAll, List.setIfInBounds_toArray, List.set_cons_succ, List.set_cons_zero]
              go_wp2_with fail
              go_meet
              exact ⟨rfl, r6, b6, fun h => by omega⟩
            · go_wp2_with fail
              refine regP25 rfl _ (by simp) W4 gx ge hgg2 a0 a1 _ th rx re rfl rfl ?_
              intro w6 b6 r6
              simp only [regP25_ds, putAll, List.setIfInBounds_toArray, List.set_cons_succ, List.set_cons_zero]
              go_wp2_with fail
              go_meet
              exact ⟨rfl, r6, b6, fun h => by omega⟩
            · go_wp2_with fail
              go_meet
              exact ⟨rfl, store_row (v := .int .i64 a0) re rfl, (Below.refl ge W4).setCell (p := ⟨ge, 3, none⟩) (Nat.le_refl _) _, fun h => by omega⟩
            · go_wp2_with fail
              go_meet
              exact ⟨rfl, store_row (v := .int .i64 a0) re rfl, (Below.refl ge W4).setCell (p := ⟨ge, 4, none⟩) (Nat.le_refl _) _, fun h => by omega⟩
            · go_wp2_with fail
              go_meet
              exact ⟨rfl, store_row (v := .int .i64 a0) re rfl, (Below.refl ge W4).setCell (p := ⟨ge, 3, none⟩) (Nat.le_refl _) _, fun h => by omega⟩
            · go_wp2_with fail
              go_meet
              exact ⟨rfl, store_row (v := .int .i64 a0) re rfl, (Below.refl ge W4).setCell (p := ⟨ge, 4, none⟩) (Nat.le_refl _) _, fun h => by omega⟩
            · go_wp2_with fail
              refine regP25 rfl _ (by simp) W4 gx ge hgg2 a0 a1 _ th rx re rfl rfl ?_
              intro w6 b6 r6
              simp only [regP25_ds, putAll, List.setIfInBounds_toArray, List.set_cons_succ, List.set_cons_zero]
              go_wp2_with fail
              go_meet
              exact ⟨rfl, r6, b6, fun h => by omega⟩
            · go_wp2_with fail
              go_meet
              exact ⟨rfl, store_row (v := .int .i64 a0) re rfl, (Below.refl ge W4).setCell (p := ⟨ge, 3, none⟩) (Nat.le_refl _) _, fun h => by omega⟩
            · by_cases hw : a0 < 0 ∨ 9 < a0
              · have HR := Lib.hid (parseR_no (PW.out rfl hw))
                by_cases hw0 : a0 < 0
                · clear hw
                  go_wp2_with (first
                    | (refine wpList_store_row rfl _ _ _ rfl w.heap.size #[.int .u8 0, .int .i64 0, .int .i64 0, .int .i64 0, .int .i64 0, .int .i64 0, .int .u8 0] rfl rfl 23 _ Q6.out (by kernel_rfl) rfl (by simp [Value.oneCell']) ?_)
                    | fail)
                  refine bodyPost_ret (results_ctW rfl _ _ w.heap.size 23 #[.int .u8 0, .int .i64 0, .int .i64 0, .int .i64 0, .int .i64 0, .int .i64 0, .int .u8 0] (0, 0) _ rfl (setRow_heap _ _ _ _ _ _ Q6.out) Tryd.underlying23 rfl (by kernel_rfl)) rfl ⟨?_, below_setRowW B6.out (Nat.le_refl _) _⟩
                  rw [HR.out]
                  rfl
                · have hw1 : 9 < a0 := by omega
                  have hw2 : 0 ≤ a0 := by omega
                  clear hw hw0
                  go_wp2_with (first
                    | (refine wpList_store_row rfl _ _ _ rfl w.heap.size #[.int .u8 0, .int .i64 0, .int .i64 0, .int .i64 0, .int .i64 0, .int .i64 0, .int .u8 0] rfl rfl 23 _ Q6.out (by kernel_rfl) rfl (by simp [Value.oneCell']) ?_)
                    | fail)
                  refine bodyPost_ret (results_ctW rfl _ _ w.heap.size 23 #[.int .u8 0, .int .i64 0, .int .i64 0, .int .i64 0, .int .i64 0, .int .i64 0, .int .u8 0] (0, 0) _ rfl (setRow_heap _ _ _ _ _ _ Q6.out) Tryd.underlying23 rfl (by kernel_rfl)) rfl ⟨?_, below_setRowW B6.out (Nat.le_refl _) _⟩
                  rw [HR.out]
                  rfl
              · have hw1 : a0 ≤ 9 := by omega
                have hw2 : 0 ≤ a0 := by omega
                clear hw
                go_wp2_with fail
                refine regP37 rfl _ (by simp) W4 gx ge hgg2 a0 a1 _ th (by omega) (by omega) rx re rfl rfl ?_
                intro w6 b6 r6
                simp only [regP37_ds, putAll, List.setIfInBounds_toArray, List.set_cons_succ, List.set_cons_zero]
                go_wp2_with fail
                go_meet
                exact ⟨rfl, r6, b6, fun h => ⟨hw2, hw1⟩⟩
            · go_wp2_with fail
              go_meet
              exact ⟨rfl, store_row (v := .int .i64 a0) re rfl, (Below.refl ge W4).setCell (p := ⟨ge, 3, none⟩) (Nat.le_refl _) _, fun h => by omega⟩
            · go_wp2_with fail
              go_meet
              exact ⟨rfl, re, Below.refl _ _, fun h => by omega⟩
            · go_wp2_with fail
              go_meet
              exact ⟨rfl, re, Below.refl _ _, fun h => by omega⟩
          case rest =>
            obtain ⟨rfl, r6, b6, hk10⟩ := hcut
            have B7 : Hid (Below w.heap.size w wc) := B6.out.trans (b6.mono (by omega))
            have Q7 : Hid (wc.heap[w.heap.size]? = some (.cells #[.int .u8 0, .int .i64 0, .int .i64 0, .int .i64 0, .int .i64 0, .int .i64 0, .int .u8 0] 23 (0, 0))) := row_staysN Q6.out b6 (by omega)
            have HSH := Lib.hid (rshow_any _ (BOK.out hk10) wc (HER.out.below B7.out))
            obtain ⟨E, hE⟩ : ∃ E, E = buildE K th a0 a1 := ⟨_, rfl⟩
            rw [← hE] at PE r6 HSH
            obtain ⟨kd, th', tx, pl, ve, xe, why⟩ := E
            have R7 : Hid (wc.heap[ge]? = some (.cells #[.int .u8 kd, .int .i64 th', .int .i64 tx, .int .i64 pl, .int .i64 ve, .int .i64 xe, .int .u8 why] 23 (0, 0))) := r6
            unfold evV at HSH
            simp only at HSH
            clear BOK PW Q6 B6 rx re r6 b6 hk10 hE HER HWL hk1 hK13 t0 t5 t05
            rcases PE.out with ⟨p1, p2, p3⟩ | ⟨p1, p2⟩
            · have HR : Hid (parseR s.data.toList = .tuple #[.agg #[.int .u8 kd, .int .i64 th', .int .i64 tx, .int .i64 pl, .int .i64 ve, .int .i64 xe, .int .u8 why], .int .i64 0]) := by
                show _ = _
                unfold parseR
                rw [p3]
                rfl
              have hq : (s.toList != s.toList) = false := by simp
              have hq2 : (s.toList == s.toList) = true := by simp
              unfold showR at HSH
              rw [if_pos p1, p2, bsW_of] at HSH
              clear p1 p2 p3 PE
              go_wp2_with (first
                | (refine wpList_load_row rfl _ _ rfl ge rfl 23 #[.int .u8 kd, .int .i64 th', .int .i64 tx, .int .i64 pl, .int .i64 ve, .int .i64 xe, .int .u8 why] (0, 0) _ R7.out Tryd.underlying23 rfl (by kernel_rfl) ?_)
                | fail)
              refine HSH.out.mono ?_
              rintro _ w8 ⟨rfl, b8⟩
              have B8 : Hid (Below w.heap.size w w8) := B7.out.trans (b8.mono B7.out.size)
              have Q8 : Hid (w8.heap[w.heap.size]? = some (.cells #[.int .u8 0, .int .i64 0, .int .i64 0, .int .i64 0, .int .i64 0, .int .i64 0, .int .u8 0] 23 (0, 0))) := row_stays Q7.out b8
              have R8 : Hid (w8.heap[ge]? = some (.cells #[.int .u8 kd, .int .i64 th', .int .i64 tx, .int .i64 pl, .int .i64 ve, .int .i64 xe, .int .u8 why] 23 (0, 0))) := row_stays R7.out b8
              clear b8 B7 Q7 R7 HSH
              go_wp2_with (first
                | (refine wpList_load_row rfl _ _ rfl ge rfl 23 #[.int .u8 kd, .int .i64 th', .int .i64 tx, .int .i64 pl, .int .i64 ve, .int .i64 xe, .int .u8 why] (0, 0) _ R8.out Tryd.underlying23 rfl (by kernel_rfl) ?_)
                | (refine wpList_store_row rfl _ _ _ rfl w.heap.size #[.int .u8 kd, .int .i64 th', .int .i64 tx, .int .i64 pl, .int .i64 ve, .int .i64 xe, .int .u8 why] rfl rfl 23 _ Q8.out (by kernel_rfl) rfl (by simp [Value.oneCell']) ?_)
                | fail)
              refine bodyPost_ret (results_ctW rfl _ _ w.heap.size 23 #[.int .u8 kd, .int .i64 th', .int .i64 tx, .int .i64 pl, .int .i64 ve, .int .i64 xe, .int .u8 why] (0, 0) _ rfl (setRow_heap _ _ _ _ _ _ Q8.out) Tryd.underlying23 rfl (by kernel_rfl)) rfl ⟨?_, below_setRowW B8.out (Nat.le_refl _) _⟩
              rw [HR.out]
              rfl
            · have HR := Lib.hid (parseR_no p2)
              by_cases hm : mayB ⟨kd, th', tx, pl, ve, xe, why⟩ 6 32 32 = true
              · have hs2 : showF ⟨kd, th', tx, pl, ve, xe, why⟩ ≠ s.data.toList := fun h2 => p1 ⟨hm, h2⟩
                unfold showR at HSH
                rw [if_pos hm] at HSH
                obtain ⟨b, hb⟩ : ∃ b, b = bsW (showF ⟨kd, th', tx, pl, ve, xe, why⟩) := ⟨_, rfl⟩
                rw [← hb] at HSH
                have hq2 : (b.toList == s.toList) = false := by rw [hb, testW]; simpa using hs2
                have hq : (b.toList != s.toList) = true := by
                  rw [bne, hq2]
                  rfl
                clear hm hs2 hb p1 p2 PE
                go_wp2_with (first
                  | (refine wpList_load_row rfl _ _ rfl ge rfl 23 #[.int .u8 kd, .int .i64 th', .int .i64 tx, .int .i64 pl, .int .i64 ve, .int .i64 xe, .int .u8 why] (0, 0) _ R7.out Tryd.underlying23 rfl (by kernel_rfl) ?_)
                  | fail)
                refine HSH.out.mono ?_
                rintro _ w8 ⟨rfl, b8⟩
                have B8 : Hid (Below w.heap.size w w8) := B7.out.trans (b8.mono B7.out.size)
                have Q8 : Hid (w8.heap[w.heap.size]? = some (.cells #[.int .u8 0, .int .i64 0, .int .i64 0, .int .i64 0, .int .i64 0, .int .i64 0, .int .u8 0] 23 (0, 0))) := row_stays Q7.out b8
                have R8 : Hid (w8.heap[ge]? = some (.cells #[.int .u8 kd, .int .i64 th', .int .i64 tx, .int .i64 pl, .int .i64 ve, .int .i64 xe, .int .u8 why] 23 (0, 0))) := row_stays R7.out b8
                clear b8 B7 Q7 R7 HSH
                go_wp2_with (first
                  | (refine wpList_load_row rfl _ _ rfl ge rfl 23 #[.int .u8 kd, .int .i64 th', .int .i64 tx, .int .i64 pl, .int .i64 ve, .int .i64 xe, .int .u8 why] (0, 0) _ R8.out Tryd.underlying23 rfl (by kernel_rfl) ?_)
                  | (refine wpList_store_row rfl _ _ _ rfl w.heap.size #[.int .u8 0, .int .i64 0, .int .i64 0, .int .i64 0, .int .i64 0, .int .i64 0, .int .u8 0] rfl rfl 23 _ Q8.out (by kernel_rfl) rfl (by simp [Value.oneCell']) ?_)
                  | fail)
                refine bodyPost_ret (results_ctW rfl _ _ w.heap.size 23 #[.int .u8 0, .int .i64 0, .int .i64 0, .int .i64 0, .int .i64 0, .int .i64 0, .int .u8 0] (0, 0) _ rfl (setRow_heap _ _ _ _ _ _ Q8.out) Tryd.underlying23 rfl (by kernel_rfl)) rfl ⟨?_, below_setRowW B8.out (Nat.le_refl _) _⟩
                rw [HR.out]
                rfl
              · unfold showR at HSH
                rw [if_neg hm] at HSH
                clear hm p1 p2 PE
                go_wp2_with (first
                  | (refine wpList_load_row rfl _ _ rfl ge rfl 23 #[.int .u8 kd, .int .i64 th', .int .i64 tx, .int .i64 pl, .int .i64 ve, .int .i64 xe, .int .u8 why] (0, 0) _ R7.out Tryd.underlying23 rfl (by kernel_rfl) ?_)
                  | fail)
                refine HSH.out.mono ?_
                rintro _ w8 ⟨rfl, b8⟩
                have B8 : Hid (Below w.heap.size w w8) := B7.out.trans (b8.mono B7.out.size)
                have Q8 : Hid (w8.heap[w.heap.size]? = some (.cells #[.int .u8 0, .int .i64 0, .int .i64 0, .int .i64 0, .int .i64 0, .int .i64 0, .int .u8 0] 23 (0, 0))) := row_stays Q7.out b8
                have R8 : Hid (w8.heap[ge]? = some (.cells #[.int .u8 kd, .int .i64 th', .int .i64 tx, .int .i64 pl, .int .i64 ve, .int .i64 xe, .int .u8 why] 23 (0, 0))) := row_stays R7.out b8
                clear b8 B7 Q7 R7 HSH
                go_wp2_with (first
                  | (refine wpList_load_row rfl _ _ rfl ge rfl 23 #[.int .u8 kd, .int .i64 th', .int .i64 tx, .int .i64 pl, .int .i64 ve, .int .i64 xe, .int .u8 why] (0, 0) _ R8.out Tryd.underlying23 rfl (by kernel_rfl) ?_)
                  | (refine wpList_store_row rfl _ _ _ rfl w.heap.size #[.int .u8 0, .int .i64 0, .int .i64 0, .int .i64 0, .int .i64 0, .int .i64 0, .int .u8 0] rfl rfl 23 _ Q8.out (by kernel_rfl) rfl (by simp [Value.oneCell']) ?_)
                  | fail)
                refine bodyPost_ret (results_ctW rfl _ _ w.heap.size 23 #[.int .u8 0, .int .i64 0, .int .i64 0, .int .i64 0, .int .i64 0, .int .i64 0, .int .u8 0] (0, 0) _ rfl (setRow_heap _ _ _ _ _ _ Q8.out) Tryd.underlying23 rfl (by kernel_rfl)) rfl ⟨?_, below_setRowW B8.out (Nat.le_refl _) _⟩
                rw [HR.out]
                rfl
end Go.Proofs.YtfbnigikofidoaaDoor
