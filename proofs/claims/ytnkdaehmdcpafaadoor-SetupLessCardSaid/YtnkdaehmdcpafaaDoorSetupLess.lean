/-
  SetupLess (P6.6): without its last thread, or the last transaction of one, a setup that may be may be; with fewer stripes, too, if one is left: the statement holds, and its card. Condition: code's table lies as its initialiser lays it, which the card ties to the program's text.
-/
import Derived.Test.YtnkdaehmdcpafaaDoorUd
import Derived.Test.YtnkdaehmdcpafaaDoorUr
import Derived.Test.YtnkdaehmdcpafaaDoorUi
import Derived.Test.YtnkdaehmdcpafaaDoorUo
import Derived.Test.YtnkdaehmdcpafaaDoorUk
import Derived.Deep.RegionHeld3
import Derived.StillTailTactics
namespace Go.Proofs.YtnkdaehmdcpafaaDoor
open Go.ChangeShapes Go.WideShapes Go.ChangeAt Go.RowKit Go.WideElems Go.WideMaps
set_option linter.unusedVariables false
set_option maxRecDepth 100000 in
set_option maxHeartbeats 8000000 in
theorem SetupLess_walk {W : World} (v : Value) (d : Nat) (s : Su) (h : SetAt W 0 W.heap.size d v s) (x : Int) (x0 : -9223372036854775808 ≤ x) (x1 : x < 9223372036854775808) (y : Int) (y0 : -9223372036854775808 ≤ y) (y1 : y < 9223372036854775808) (hkd : Kd W) :
    Calls Tryd.prog 9 #[v, .int .i64 x, .int .i64 y] W fun e w' => e = .returned (.bool true) ∧ Below W.heap.size W w' := by
  obtain ⟨I, c, T, c', rfl, h⟩ := h
  obtain ⟨w, hw⟩ : ∃ w, w = W := ⟨_, rfl⟩
  rw [← hw] at h hkd ⊢
  have b0 := sfive_below w s.st s.cl s.tr I s.init.length c T s.thr.length c'
  have hS := h.below b0 (Nat.le_refl _)
  have HLG := Lib.hid (large_any6 d s I T c c' 0 w.heap.size _ hS (by simp))
  have HF5 := Lib.hid (fun W' (h' : Below (w.heap.size + 1) (w.alloc (.cells #[.int .i64 s.st, .int .i64 s.cl, .int .i64 s.tr, .slice I s.init.length c, .slice T s.thr.length c'] 25)) W') => (SFive.new w s.st s.cl s.tr I s.init.length c T s.thr.length c').below h' (by omega))
  have HB := Lib.hid b0
  have HA := Lib.hid awake_any
  have l1 := h.ini.len
  have l2 := h.len
  have HZ0 : Hid ((w.alloc (.cells #[.int .i64 s.st, .int .i64 s.cl, .int .i64 s.tr, .slice I s.init.length c, .slice T s.thr.length c'] 25)).heap.size = w.heap.size + 1) := by show _ = _; simp
  cases hlg : largeF d s with
  | true =>
    rw [hlg] at HLG
    obtain ⟨st, cl, tr, ini, thr⟩ := s
    dsimp only at *
    clear h hkd b0 hS hlg hw HF5
    go_enter Tryd.func9, Tryd.ntmps9
    go_wp2_with fail
    refine HLG.out.mono ?_
    rintro _ w1 ⟨rfl, b1⟩
    have B1 : Hid (Below w.heap.size w w1) := HB.out.trans (b1.mono (by have := HZ0.out; omega))
    clear b1
    go_wp2_with fail
    refine (HA.out w1).mono ?_
    rintro _ w2 ⟨rfl, b2⟩
    have B2 : Hid (Below w.heap.size w w2) := B1.out.trans (b2.mono B1.out.size)
    clear b2
    go_wp2_with fail
    go_ret
    exact ⟨rfl, B2.out⟩
  | false =>
    obtain ⟨h42, hfew⟩ := h.fit hlg
    rw [hlg] at HLG
    have HKD := Lib.hid (fun W' (h' : Below w.heap.size w W') => hkd.below h' (Nat.le_refl _))
    have HCH := Lib.hid (fun W' (h' : Below w.heap.size w W') => check_any 42 s I T c c' 0 w.heap.size W' (hkd.below h' (Nat.le_refl _)) (h42.below h' (Nat.le_refl _)) h'.size (by omega))
    have HCO := Lib.hid (fun W' (h' : Below w.heap.size w W') => cost_any6 42 s I T c c' 0 w.heap.size W' (h42.below h' (Nat.le_refl _)) h'.size)
    have HCP := Lib.hid (fun W' (h' : Below w.heap.size w W') => rcopy6_any 42 s I T c c' 0 w.heap.size W' (h42.below h' (Nat.le_refl _)) h'.size hfew)
    have HFEW := Lib.hid hfew
    have HRG := Lib.hid h42
    have HOST := Lib.hid (fun x h1 h2 h3 => okF_st (d := 42) (s := s) (x := x) h1 h2 h3)
    have HOTH := Lib.hid (fun T h1 h2 h3 => okF_thr (d := 42) (s := s) (T := T) h1 h2 h3)
    have HOP := Lib.hid (fun h => okF_parts (d := 42) (s := s) h)
    obtain ⟨st, cl, tr, ini, thr⟩ := s
    dsimp only at HLG HF5 HB HZ0 HCH HCO HCP HOST HOTH HOP l1 l2 ⊢
    obtain ⟨M, hM⟩ : ∃ M, M = thr.length := ⟨_, rfl⟩
    have HM := Lib.hid hM
    obtain ⟨n, hn⟩ : ∃ n, n = ini.length := ⟨_, rfl⟩
    have HN := Lib.hid hn
    unfold Copied6 at HCP
    dsimp only at HCP
    rw [← hM] at HLG HF5 HB HZ0 HCH HCO HCP l2
    rw [← hn] at HLG HF5 HB HZ0 HCH HCO HCP l1
    rw [← hM, ← hn]
    obtain ⟨F, hF⟩ : ∃ F, F = okF 42 ⟨st, cl, tr, ini, thr⟩ := ⟨_, rfl⟩
    obtain ⟨CA, hCA⟩ : ∃ C, C = costA 42 thr := ⟨_, rfl⟩
    rw [← hF] at HCH HOST HOTH HOP
    rw [← hCA] at HCO
    have HCA := Lib.hid hCA
    obtain ⟨W0, hW0⟩ : ∃ W, W = w.alloc (.cells #[.int .i64 st, .int .i64 cl, .int .i64 tr, .slice I n c, .slice T M c'] 25) := ⟨_, rfl⟩
    rw [← hW0] at HF5 HB HZ0 HLG
    have HW0 := Lib.hid hW0
    clear h hkd b0 hS hlg hw hfew h42 hM hn hF hCA hW0
    go_enter Tryd.func9, Tryd.ntmps9
    go_wp2_with fail
    rw [← HW0.out]
    refine HLG.out.mono ?_
    rintro _ w1 ⟨rfl, b1⟩
    have B1 : Hid (Below (w.heap.size + 1) W0 w1) := b1.mono (by have := HZ0.out; omega)
    clear b1
    go_wp2_with fail
    refine (HA.out w1).mono ?_
    rintro _ w2 ⟨rfl, b2⟩
    have B2 : Hid (Below (w.heap.size + 1) W0 w2) := B1.out.trans (b2.mono (by have := B1.out.size; have := HZ0.out; omega))
    have c0 := (HF5.out w2 B2.out).c0
    have c1 := (HF5.out w2 B2.out).c1
    have c2 := (HF5.out w2 B2.out).c2
    have c3 := (HF5.out w2 B2.out).c3
    have c4 := (HF5.out w2 B2.out).c4
    clear b2
    have D2 : Hid (Below w.heap.size w w2) := HB.out.trans (B2.out.mono (by omega))
    cases F with
    | false =>
      have HCK : Hid (Calls Tryd.prog 14 #[.agg #[.int .i64 st, .int .i64 cl, .int .i64 tr, .slice I n c, .slice T M c']] w2 fun e w' => e = .returned (.int .i64 4) ∧ Below w2.heap.size w2 w') := HCH.out w2 D2.out
      go_wp2_with fail
      refine HCK.out.mono ?_
      rintro _ w3 ⟨rfl, b3⟩
      have B3 : Hid (Below w.heap.size w w3) := D2.out.trans (b3.mono D2.out.size)
      clear b3
      go_wp2_with fail
      go_ret
      exact ⟨rfl, B3.out⟩
    | true =>
      obtain ⟨hn1, hn2, hn3, hn4, hn5⟩ := HOP.out rfl
      have HCK : Hid (∀ W', Below w.heap.size w W' → Calls Tryd.prog 14 #[.agg #[.int .i64 st, .int .i64 cl, .int .i64 tr, .slice I n c, .slice T M c']] W' fun e w' => e = .returned (.int .i64 0) ∧ Below W'.heap.size W' w') := HCH.out
      go_wp2_with fail
      refine (HCK.out w2 D2.out).mono ?_
      rintro _ w3 ⟨rfl, b3⟩
      have B3 : Hid (Below (w.heap.size + 1) W0 w3) := B2.out.trans (b3.mono (by have := B2.out.size; have := HZ0.out; omega))
      clear b3 c0 c1 c2 c3 c4
      have c0 := (HF5.out w3 B3.out).c0
      have c1 := (HF5.out w3 B3.out).c1
      have c2 := (HF5.out w3 B3.out).c2
      have c3 := (HF5.out w3 B3.out).c3
      have c4 := (HF5.out w3 B3.out).c4
      have D3 : Hid (Below w.heap.size w w3) := HB.out.trans (B3.out.mono (by omega))
      have HNN := Lib.hid (And.intro hn1 (And.intro hn2 (And.intro hn3 (And.intro hn4 hn5))))
      clear hn1 hn2 hn3 hn4 hn5
      go_wp2_with fail
      refine (HCP.out w3 D3.out).mono ?_
      rintro _ w4 ⟨Ia, ca, Ta, cta, mida, aa, rfl, capa, hsa, b4⟩
      have B4 : Hid (Below (w.heap.size + 1) W0 w4) := B3.out.trans (b4.mono (by have := B3.out.size; have := HZ0.out; omega))
      have HSA := Lib.hid hsa
      clear b4 c0 c1 c2 c3 c4 hsa capa
      have d0 : ∀ o, (w4.alloc o).cell? ⟨w.heap.size, 0, none⟩ = some (.int .i64 st) := fun o => (HF5.out (w4.alloc o) (B4.out.alloc (by have := B4.out.size; have := HZ0.out; omega) o)).c0
      have q0 := HRG.out.st1
      dsimp only at q0
      have hnz := modU_nz st HNN.out.2.2.2.1 q0
      obtain ⟨m1, m2, m3⟩ := modU_wrap y st HNN.out.2.2.2.1 q0
      obtain ⟨r, hr⟩ : ∃ r, r = modU y st := ⟨_, rfl⟩
      rw [← hr] at m1 m2 m3
      have m4 : wrap64 (1 + r) = 1 + r := by unfold wrap64; omega
      have HOK1 := Lib.hid (HOST.out (1 + r) trivial (by omega) (by omega))
      have z4 := B4.out.size
      have HSA1 : Hid (∀ o, SuAt (w4.alloc o) w3.heap.size w4.heap.size 42 Ia Ta ⟨1 + r, cl, tr, ini, thr⟩) := fun o => (HSA.out.suAt (s' := ⟨1 + r, cl, tr, ini, thr⟩) rfl rfl (HFEW.out.thr) (by show _ ≤ 1 + r; omega) (by show 1 + r < _; omega) HRG.out.cl0 HRG.out.cl1 HRG.out.tr0 HRG.out.tr1).below ((Below.refl _ _).alloc (Nat.le_refl _) o) (Nat.le_refl _)
      have D4 : Hid (Below w.heap.size w w4) := HB.out.trans (B4.out.mono (by omega))
      have HCK1 : Hid (∀ o, Calls Tryd.prog 14 #[.agg #[.int .i64 (1 + r), .int .i64 cl, .int .i64 tr, .slice Ia n ca, .slice Ta M cta]] (w4.alloc o) fun e w' => e = .returned (.int .i64 0) ∧ Below (w4.alloc o).heap.size (w4.alloc o) w') := fun o => by
        have := check_any 42 ⟨1 + r, cl, tr, ini, thr⟩ Ia Ta ca cta _ _ (w4.alloc o) (HKD.out _ (D4.out.alloc (by have := D4.out.size; omega) o)) (HSA1.out o) (by simp) (by omega)
        rw [HOK1.out] at this
        dsimp only at this
        rw [← HN.out, ← HM.out] at this
        exact this
      have HZ4 := Lib.hid z4
      clear hr m2 m3 q0 z4 HSA1 HOK1 HOST
      go_wp2_with fail
      refine (HCK1.out _).mono ?_
      rintro _ w5 ⟨rfl, b5⟩
      have B5 : Hid (Below (w.heap.size + 1) W0 w5) := B4.out.trans ((((Below.refl w4.heap.size w4).alloc (Nat.le_refl _) _).trans (b5.mono (by simp))).mono (by have := HZ4.out; have := HZ0.out; omega))
      clear b5 d0 m1 m4 hnz
      have c0 := (HF5.out w5 B5.out).c0
      have c1 := (HF5.out w5 B5.out).c1
      have c2 := (HF5.out w5 B5.out).c2
      have c3 := (HF5.out w5 B5.out).c3
      have c4 := (HF5.out w5 B5.out).c4
      have D5 : Hid (Below w.heap.size w w5) := HB.out.trans (B5.out.mono (by omega))
      by_cases hM0 : M = 0
      · subst hM0
        go_wp2_with fail
        go_ret
        exact ⟨rfl, D5.out⟩
      obtain ⟨K, rfl⟩ : ∃ K, M = K + 1 := ⟨M - 1, by omega⟩
      have hk20 : K ≤ 20 := by have := HFEW.out.thr; dsimp only at this; have := HM.out; omega
      have i0 : (((K + 1 : Nat) : Int) == 0) = false := by rw [beq_eq_false_iff_ne]; omega
      clear hM0
      go_wp2_with fail
      refine (HCP.out w5 D5.out).mono ?_
      rintro _ w6 ⟨Ib, cb, Tb, ctb, midb, ab, rfl, capb, hsb, b6⟩
      have B6 : Hid (Below (w.heap.size + 1) W0 w6) := B5.out.trans (b6.mono (by have := B5.out.size; have := HZ0.out; omega))
      have HSB := Lib.hid (And.intro hsb capb)
      have D6 : Hid (Below w.heap.size w w6) := HB.out.trans (B6.out.mono (by omega))
      clear b6 c0 c1 c2 c3 c4 hsb capb
      obtain ⟨gb, hTb⟩ : ∃ g, Tb = some ⟨g, 0, none⟩ := by
        rcases HSB.out.1.row with h0 | ⟨g, _, h1, _⟩
        · have := HM.out; dsimp only at h0; omega
        · exact ⟨g, h1⟩
      subst hTb
      have capb2 : K ≤ ctb := by have := HSB.out.2; have := HM.out; omega
      have capb3 : K + 1 ≤ ctb := by have := HSB.out.2; have := HM.out; omega
      go_upto_region 13 with fail
      obtain ⟨W7, hW7⟩ : ∃ W, W = w6.alloc (.cells #[.int .i64 st, .int .i64 cl, .int .i64 tr, .slice Ib n cb, .slice (some ⟨gb, 0, none⟩) K ctb] 25) := ⟨_, rfl⟩
      rw [← hW7]
      have hz7 : W7.heap.size = w6.heap.size + 1 := by rw [hW7]; simp
      have b67 : Below w6.heap.size w6 W7 := by rw [hW7]; exact (Below.refl _ _).alloc (Nat.le_refl _) _
      have hfb : SFive W7 w6.heap.size st cl tr Ib n cb (some ⟨gb, 0, none⟩) K ctb := by rw [hW7]; exact SFive.new w6 st cl tr Ib n cb _ K ctb
      have B7 : Hid (Below (w.heap.size + 1) W0 W7) := B6.out.trans (b67.mono (by have := B6.out.size; have := HZ0.out; omega))
      have D7 : Hid (Below w.heap.size w W7) := HB.out.trans (B7.out.mono (by omega))
      have HFB := Lib.hid (fun W' (h' : Below W7.heap.size W7 W') => hfb.below h' (by omega))
      have HSB2 := Lib.hid (fun W' (h' : Below W7.heap.size W7 W') => (HSB.out.1.suAt (s' := ⟨st, cl, tr, ini, thr⟩) rfl rfl (HFEW.out.thr) HRG.out.st0 HRG.out.st1 HRG.out.cl0 HRG.out.cl1 HRG.out.tr0 HRG.out.tr1).below (b67.trans (h'.mono b67.size)) (Nat.le_refl _))
      have HZ7 := Lib.hid (And.intro hz7 b67.size)
      have c0 := (HF5.out W7 B7.out).c0
      have c1 := (HF5.out W7 B7.out).c1
      have c2 := (HF5.out W7 B7.out).c2
      have c3 := (HF5.out W7 B7.out).c3
      have c4 := (HF5.out W7 B7.out).c4
      clear hz7 b67 hfb hW7 capb2 capb3
      go_wp2_with fail
      refine (HCP.out W7 D7.out).mono ?_
      rintro _ w8 ⟨Ic, cc, Tc, ctc, midc, ac, rfl, capc, hsc, b8⟩
      have B8 : Hid (Below W7.heap.size W7 w8) := b8
      have HSC := Lib.hid (And.intro hsc capc)
      clear b8 c0 c1 c2 c3 c4 hsc capc
      obtain ⟨gc, hTc, hgc1, hgc2⟩ : ∃ g, Tc = some ⟨g, 0, none⟩ ∧ W7.heap.size ≤ g ∧ g < w8.heap.size := by
        rcases HSC.out.1.row with h0 | ⟨g, _, h1, h2, _⟩
        · have := HM.out; dsimp only at h0; omega
        · have := HSC.out.1.lm; exact ⟨g, h1, by omega, h2.2⟩
      subst hTc
      obtain ⟨m1, m2, m3⟩ := modU_wrap x ((K : Int) + 1) (by omega) (by omega)
      have hnz := modU_nz ((K : Int) + 1) (by omega) (by omega)
      obtain ⟨t, ht⟩ := Int.eq_ofNat_of_zero_le m2
      rw [ht] at m1 m3
      have m4 : wrap64 ((IntKind.u64.wrap x).tmod ((K : Int) + 1)) = ((t : Nat) : Int) := by
        rw [IntWalk.u64_in ((K : Int) + 1) ⟨by omega, by omega⟩] at m1
        exact m1
      have htK : t < K + 1 := by omega
      have htM : t < thr.length := by have := HM.out; omega
      obtain ⟨pp, u, e1, _, _, hcell, Bt, ct, rfl, lt1, ht1, ht2, ht3⟩ := HSC.out.1.parts t htM
      cases e1
      dsimp only at hcell lt1 ht2 ht3
      rw [row_add] at hcell
      obtain ⟨L, hL⟩ : ∃ L, L = thr[t].length := ⟨_, rfl⟩
      have HL := Lib.hid hL
      rw [← hL] at hcell ht2 ht3 lt1
      have HCELL := Lib.hid hcell
      have HBT : Hid (L = 0 ∨ ∃ g, Bt = some ⟨g, 0, none⟩) := ht2.imp id (fun ⟨g, _, h, _⟩ => ⟨g, h⟩)
      clear m2 m3 ht hcell ht1 ht2 hL
      go_upto_region 15 with fail
      obtain ⟨W9, hW9⟩ : ∃ W, W = w8.alloc (.cells #[.int .i64 st, .int .i64 cl, .int .i64 tr, .slice Ic n cc, .slice (some ⟨gc, 0, none⟩) (K + 1) ctc] 25) := ⟨_, rfl⟩
      rw [← hW9]
      have hz9 : W9.heap.size = w8.heap.size + 1 := by rw [hW9]; simp
      have b89 : Below w8.heap.size w8 W9 := by rw [hW9]; exact (Below.refl _ _).alloc (Nat.le_refl _) _
      have hfc : SFive W9 w8.heap.size st cl tr Ic n cc (some ⟨gc, 0, none⟩) (K + 1) ctc := by rw [hW9]; exact SFive.new w8 st cl tr Ic n cc _ (K + 1) ctc
      have hsc9 : SuW W9 W7.heap.size midc 42 Ic (some ⟨gc, 0, none⟩) ⟨st, cl, tr, ini, thr⟩ ac := HSC.out.1.keep b89.size (fun b _ hb => b89.block b hb)
      have f4 := hfc.c4
      have g4 := (b89.cell (p := ⟨gc, t, none⟩) hgc2).trans HCELL.out
      have g5 : W9.frozen? ⟨gc, t, none⟩ = false := by
        rcases hsc9.row with h0 | ⟨g, xs, h1, _, h3, _⟩
        · dsimp only at h0; omega
        · cases h1
          simp [World.frozen?, h3]
      have HCUT := Lib.hid (fun m hm (hc : W9.drew.cell? ⟨gc, t, none⟩ = some (.slice Bt thr[t].length ct)) => (hsc9.keep (w' := W9.drew) (Nat.le_refl _) (fun _ _ _ => rfl)).cut (k := t) (m := m) htM hm rfl hc)
      have HGC := Lib.hid (And.intro hgc1 (And.intro hgc2 (And.intro hz9 (And.intro b89 hfc))))
      clear hgc1 hgc2 hz9 b89 hfc hsc9 hW9
      have HX9 : Hid (W9.drew.cell? ⟨gc, t, none⟩ = some (.slice Bt L ct) ∧ W9.drew.frozen? ⟨gc, t, none⟩ = false) := ⟨g4, g5⟩
      have htK3 : (t : Int) < (K : Int) + 1 := by omega
      have htK2 : t ≤ K := by omega
      rw [m4]
      clear m1 m4
      go_cut [6] (fun o wc => o = .bool false ∧ wc = W9.drew.setCell ⟨gc, t, none⟩ (.slice Bt (L - 1) ct))
      case first =>
        rcases Nat.eq_zero_or_pos L with hL0 | hL0
        · subst hL0
          have e2 : IntKind.i64.wrap (-1) = -1 := by decide
          cases Bt with
          | none =>
            go_still_tail 18, (by kernel_rfl)
            change wpList _ _ _ _ _ W9.drew
            have k1 := HX9.out.1
            have k2 := HX9.out.2
            go_wp2_with fail
            go_meet
            exact ⟨rfl, rfl⟩
          | some bt =>
            go_still_tail 18, (by kernel_rfl)
            change wpList _ _ _ _ _ W9.drew
            have k1 := HX9.out.1
            have k2 := HX9.out.2
            go_wp2_with fail
            go_meet
            exact ⟨rfl, rfl⟩
        · obtain ⟨L', rfl⟩ : ∃ q, L = q + 1 := ⟨L - 1, by omega⟩
          obtain ⟨gt, hBt⟩ := HBT.out.resolve_left (by omega)
          subst hBt
          have e2 : IntKind.i64.wrap (((L' + 1 : Nat) : Int) - 1) = (L' : Int) := by rw [IntWalk.i64_in _ ⟨by omega, by omega⟩]; omega
          have e3 : IntKind.i64.wrap ((L' : Int) + 1 - 1) = (L' : Int) := by rw [IntWalk.i64_in _ ⟨by omega, by omega⟩]; omega
          have ct2 : L' ≤ ct := by omega
          have e4 : IntKind.i64.wrap (L' : Int) = (L' : Int) := IntWalk.i64_in _ ⟨by omega, by omega⟩
          have e5 : (if (0 : Int) < (L' : Int) then (L' : Int) else 0) = (L' : Int) := by split <;> omega
          have e6 : (if 0 < L' then (L' : Int) else 0) = (L' : Int) := by split <;> omega
          go_still_tail 18, (by kernel_rfl)
          change wpList _ _ _ _ _ W9.drew
          have k1 := HX9.out.1
          have k2 := HX9.out.2
          go_wp2_with fail
          go_meet
          exact ⟨rfl, rfl⟩
      case rest =>
        obtain ⟨rfl, rfl⟩ := hcut
        obtain ⟨W10, hW10⟩ : ∃ W, W = W9.drew.setCell ⟨gc, t, none⟩ (.slice Bt (L - 1) ct) := ⟨_, rfl⟩
        rw [← hW10]
        obtain ⟨p1, p2, p3, p4, p5⟩ := HGC.out
        have hz10 : W10.heap.size = W9.heap.size := by rw [hW10]; simp
        have h710 : Below W7.heap.size W7 W10 := by
          rw [hW10]
          exact (((B8.out.trans (p4.mono B8.out.size)).drew)).setCell (p := ⟨gc, t, none⟩) p1 _
        have h810 : ∀ i, W10.cell? ⟨w8.heap.size, i, none⟩ = W9.cell? ⟨w8.heap.size, i, none⟩ := fun i => by
          rw [hW10]
          exact World.cell?_of_block (a := ⟨w8.heap.size, i, none⟩) (heap_set_other W9.drew gc t _ w8.heap.size (by omega))
        have B10 : Hid (Below (w.heap.size + 1) W0 W10) := B7.out.trans (h710.mono (by have := B7.out.size; have := HZ0.out; omega))
        have D10 : Hid (Below w.heap.size w W10) := HB.out.trans (B10.out.mono (by omega))
        have hcut := HCUT.out (L - 1) (by rw [← HL.out]; omega) (by rw [← HL.out]; exact g4)
        have hcut2 : Thr W10 W7.heap.size W9.heap.size 42 (some ⟨gc, 0, none⟩) (thr.set t (thr[t].take (L - 1))) ∧ Ints W10 midc Ic ini := by
          rw [hW10]
          exact hcut
        have hlt : (thr.set t (thr[t].take (L - 1))).length = K + 1 := by rw [List.length_set, ← HM.out]
        have hltk : (thr.take K).length = K := by rw [List.length_take, ← HM.out]; omega
        have hms : midc ≤ W9.heap.size := by have := HSC.out.1.ms; omega
        have hsuc : SuAt W10 W7.heap.size W9.heap.size 42 Ic (some ⟨gc, 0, none⟩) ⟨st, cl, tr, ini, thr.set t (thr[t].take (L - 1))⟩ :=
          ⟨⟨hcut2.2.len, fun k hk => by
            obtain ⟨p, e, b, c⟩ := hcut2.2.cell k hk
            exact ⟨p, e, Nat.lt_of_lt_of_le b hms, c⟩⟩, hcut2.1, by show (thr.set t (thr[t].take (L - 1))).length ≤ _; rw [hlt]; omega, HRG.out.st0, HRG.out.st1, HRG.out.cl0, HRG.out.cl1, HRG.out.tr0, HRG.out.tr1⟩
        have hsub := HSB2.out W10 h710
        have hsub2 : SuAt W10 w5.heap.size w6.heap.size 42 Ib (some ⟨gb, 0, none⟩) ⟨st, cl, tr, ini, thr.take K⟩ :=
          ⟨hsub.ini, hsub.thr.take K, by show (thr.take K).length ≤ _; rw [hltk]; omega, HRG.out.st0, HRG.out.st1, HRG.out.cl0, HRG.out.cl1, HRG.out.tr0, HRG.out.tr1⟩
        have okb := HOTH.out (thr.take K) trivial (by rw [hltk, ← HM.out]; omega) (thrF_takeT HNN.out.2.2.1 K)
        have okc := HOTH.out (thr.set t (thr[t].take (L - 1))) trivial (by rw [hlt, ← HM.out]; omega) (thrF_set HNN.out.2.2.1 t (L - 1) htM)
        have hz6 : w6.heap.size ≤ W10.heap.size := by have := HZ7.out.2; have := h710.size; omega
        have KB : Hid (∀ W', Below W10.heap.size W10 W' → Calls Tryd.prog 14 #[.agg #[.int .i64 st, .int .i64 cl, .int .i64 tr, .slice Ib n cb, .slice (some ⟨gb, 0, none⟩) K ctb]] W' fun e w' => e = .returned (.int .i64 0) ∧ Below W10.heap.size W10 w') := fun W' h' => by
          have := check_any 42 ⟨st, cl, tr, ini, thr.take K⟩ Ib (some ⟨gb, 0, none⟩) cb ctb _ _ W' (HKD.out _ (D10.out.trans (h'.mono D10.out.size))) (hsub2.below h' hz6) (Nat.le_trans hz6 h'.size) (by omega)
          rw [okb] at this
          dsimp only at this
          rw [← HN.out, hltk] at this
          exact this.mono fun e w' ⟨h1, h2⟩ => ⟨h1, h'.trans (h2.mono h'.size)⟩
        have KC : Hid (∀ W', Below W10.heap.size W10 W' → Calls Tryd.prog 14 #[.agg #[.int .i64 st, .int .i64 cl, .int .i64 tr, .slice Ic n cc, .slice (some ⟨gc, 0, none⟩) (K + 1) ctc]] W' fun e w' => e = .returned (.int .i64 0) ∧ Below W10.heap.size W10 w') := fun W' h' => by
          have := check_any 42 ⟨st, cl, tr, ini, thr.set t (thr[t].take (L - 1))⟩ Ic (some ⟨gc, 0, none⟩) cc ctc _ _ W' (HKD.out _ (D10.out.trans (h'.mono D10.out.size))) (hsuc.below h' (by omega)) (by have := h'.size; omega) (by omega)
          rw [okc] at this
          dsimp only at this
          rw [← HN.out, hlt] at this
          exact this.mono fun e w' ⟨h1, h2⟩ => ⟨h1, h'.trans (h2.mono h'.size)⟩
        obtain ⟨VB, hVB⟩ : ∃ V, V = costA 42 (thr.take K) := ⟨_, rfl⟩
        obtain ⟨VC, hVC⟩ : ∃ V, V = costA 42 (thr.set t (thr[t].take (L - 1))) := ⟨_, rfl⟩
        have lb : (VB : Int) ≤ (CA : Int) := by have := costA_take (d := 42) thr K; rw [← hVB, ← HCA.out] at this; omega
        have lc : (VC : Int) ≤ (CA : Int) := by have := costA_set (d := 42) thr t (L - 1) htM; rw [← hVC, ← HCA.out] at this; omega
        have CB : Hid (∀ W', Below W10.heap.size W10 W' → Calls Tryd.prog 18 #[.agg #[.int .i64 st, .int .i64 cl, .int .i64 tr, .slice Ib n cb, .slice (some ⟨gb, 0, none⟩) K ctb]] W' fun e w' => e = .returned (.int .i64 VB) ∧ Below W10.heap.size W10 w') := fun W' h' => by
          have := cost_any6 42 ⟨st, cl, tr, ini, thr.take K⟩ Ib (some ⟨gb, 0, none⟩) cb ctb _ _ W' (hsub2.below h' hz6) (Nat.le_trans hz6 h'.size)
          dsimp only at this
          rw [← HN.out, hltk, ← hVB] at this
          exact this.mono fun e w' ⟨h1, h2⟩ => ⟨h1, h'.trans (h2.mono h'.size)⟩
        have CC : Hid (∀ W', Below W10.heap.size W10 W' → Calls Tryd.prog 18 #[.agg #[.int .i64 st, .int .i64 cl, .int .i64 tr, .slice Ic n cc, .slice (some ⟨gc, 0, none⟩) (K + 1) ctc]] W' fun e w' => e = .returned (.int .i64 VC) ∧ Below W10.heap.size W10 w') := fun W' h' => by
          have := cost_any6 42 ⟨st, cl, tr, ini, thr.set t (thr[t].take (L - 1))⟩ Ic (some ⟨gc, 0, none⟩) cc ctc _ _ W' (hsuc.below h' (by omega)) (by have := h'.size; omega)
          dsimp only at this
          rw [← HN.out, hlt, ← hVC] at this
          exact this.mono fun e w' ⟨h1, h2⟩ => ⟨h1, h'.trans (h2.mono h'.size)⟩
        have CS : Hid (∀ W', Below W10.heap.size W10 W' → Calls Tryd.prog 18 #[.agg #[.int .i64 st, .int .i64 cl, .int .i64 tr, .slice I n c, .slice T (K + 1) c']] W' fun e w' => e = .returned (.int .i64 CA) ∧ Below W10.heap.size W10 w') := fun W' h' =>
          (HCO.out W' (D10.out.trans (h'.mono D10.out.size))).mono fun e w' ⟨h1, h2⟩ => ⟨h1, h'.trans (h2.mono h'.size)⟩
        have hS : Hid (∀ W', Below W10.heap.size W10 W' → (W'.cell? ⟨w.heap.size, 0, none⟩ = some (.int .i64 st) ∧ W'.cell? ⟨w.heap.size, 1, none⟩ = some (.int .i64 cl) ∧ W'.cell? ⟨w.heap.size, 2, none⟩ = some (.int .i64 tr) ∧ W'.cell? ⟨w.heap.size, 3, none⟩ = some (.slice I n c) ∧ W'.cell? ⟨w.heap.size, 4, none⟩ = some (.slice T (K + 1) c') ∧ W'.cell? ⟨w6.heap.size, 0, none⟩ = some (.int .i64 st) ∧ W'.cell? ⟨w6.heap.size, 1, none⟩ = some (.int .i64 cl) ∧ W'.cell? ⟨w6.heap.size, 2, none⟩ = some (.int .i64 tr) ∧ W'.cell? ⟨w6.heap.size, 3, none⟩ = some (.slice Ib n cb) ∧ W'.cell? ⟨w6.heap.size, 4, none⟩ = some (.slice (some ⟨gb, 0, none⟩) K ctb) ∧ W'.cell? ⟨w8.heap.size, 0, none⟩ = some (.int .i64 st) ∧ W'.cell? ⟨w8.heap.size, 1, none⟩ = some (.int .i64 cl) ∧ W'.cell? ⟨w8.heap.size, 2, none⟩ = some (.int .i64 tr) ∧ W'.cell? ⟨w8.heap.size, 3, none⟩ = some (.slice Ic n cc) ∧ W'.cell? ⟨w8.heap.size, 4, none⟩ = some (.slice (some ⟨gc, 0, none⟩) (K + 1) ctc))) := fun W' h' => by
          have a1 := HF5.out W' (B10.out.trans (h'.mono (by have := B10.out.size; have := HZ0.out; omega)))
          have a2 := (HFB.out W10 h710).below h' (by have := HZ7.out; have := h710.size; omega)
          have a3 : ∀ i, W'.cell? ⟨w8.heap.size, i, none⟩ = W9.cell? ⟨w8.heap.size, i, none⟩ := fun i => (h'.cell (p := ⟨w8.heap.size, i, none⟩) (by show w8.heap.size < _; omega)).trans (h810 i)
          exact ⟨a1.c0, a1.c1, a1.c2, a1.c3, a1.c4, a2.c0, a2.c1, a2.c2, a2.c3, a2.c4, (a3 0).trans p5.c0, (a3 1).trans p5.c1, (a3 2).trans p5.c2, (a3 3).trans p5.c3, (a3 4).trans p5.c4⟩
        have E0 := Lib.hid (hS.out W10 (Below.refl _ _))
        have E1 := Lib.hid (hS.out W10.drew (Below.refl _ _).drew)
        clear f4 g4 g5 HX9 hcut hcut2 hsuc hsub hsub2 okb okc hVB hVC h710 h810 hW10 p1 p2 p3 p4 p5 hz10 hlt hltk hms hz6
        go_upto_region 16 with fail
        go_region_held3 (fun w' => w'.cell? ⟨w.heap.size, 0, none⟩ = some (.int .i64 st) ∧ w'.cell? ⟨w.heap.size, 1, none⟩ = some (.int .i64 cl) ∧ w'.cell? ⟨w.heap.size, 2, none⟩ = some (.int .i64 tr) ∧ w'.cell? ⟨w.heap.size, 3, none⟩ = some (.slice I n c) ∧ w'.cell? ⟨w.heap.size, 4, none⟩ = some (.slice T (K + 1) c') ∧ w'.cell? ⟨w6.heap.size, 0, none⟩ = some (.int .i64 st) ∧ w'.cell? ⟨w6.heap.size, 1, none⟩ = some (.int .i64 cl) ∧ w'.cell? ⟨w6.heap.size, 2, none⟩ = some (.int .i64 tr) ∧ w'.cell? ⟨w6.heap.size, 3, none⟩ = some (.slice Ib n cb) ∧ w'.cell? ⟨w6.heap.size, 4, none⟩ = some (.slice (some ⟨gb, 0, none⟩) K ctb) ∧ w'.cell? ⟨w8.heap.size, 0, none⟩ = some (.int .i64 st) ∧ w'.cell? ⟨w8.heap.size, 1, none⟩ = some (.int .i64 cl) ∧ w'.cell? ⟨w8.heap.size, 2, none⟩ = some (.int .i64 tr) ∧ w'.cell? ⟨w8.heap.size, 3, none⟩ = some (.slice Ic n cc) ∧ w'.cell? ⟨w8.heap.size, 4, none⟩ = some (.slice (some ⟨gc, 0, none⟩) (K + 1) ctc))
          (first | exact E0.out | exact E1.out | exact hS.out _ b16 | exact hS.out _ b15 | exact hS.out _ b14 | exact hS.out _ b13 | exact hS.out _ b12 | exact hS.out _ b11 | go_keep)
          (first
            | (go_at_call 18; refine (CS.out w15 b15).mono ?_; rintro z w16 ⟨rfl, b16⟩)
            | (go_at_call 18; refine (CC.out w14 b14).mono ?_; rintro z w15 ⟨rfl, b15⟩)
            | (go_at_call 18; refine (CS.out w13 b13).mono ?_; rintro z w14 ⟨rfl, b14⟩)
            | (go_at_call 18; refine (CB.out w12 b12).mono ?_; rintro z w13 ⟨rfl, b13⟩)
            | (go_at_call 14; refine (KC.out w11 b11).mono ?_; rintro z w12 ⟨rfl, b12⟩)
            | (go_at_call 14; refine (KB.out W10.drew (Below.refl _ _).drew).mono ?_; rintro z w11 ⟨rfl, b11⟩)
            | fail)
        go_wp2_with fail
        go_ret
        exact ⟨rfl, D10.out.trans (b16.mono D10.out.size)⟩
theorem SetupLess_laid : laidOutB Tryd.prog = true := by kernel_rfl
set_option maxRecDepth 100000 in
theorem SetupLess_lifted (os : Os) (started : os.Started) (H : Type) (enc : TypeId × Value → H) :
    ReturnsInHanded {} Tryd.checked os 9 .any (fun w args => (Rows.setupLessSpec.pre enc Tryd.prog Tryd.f9 [] false w args ∧ laidMetH Tryd.prog [("seesaw/code.kinds", Rows.laid_seesaw_code_kinds)] w) ∧ sizedMet enc Tryd.prog Tryd.f9 (OpenSpec.ofChange Rows.setupLessSpec) false w args)
      (Rows.setupLessSpec.post enc Tryd.prog Tryd.f9 false true false false) := by
  refine returnsInHanded_of_change_and (C := Tryd.checked) (X := fun w _ => laidMetH Tryd.prog [("seesaw/code.kinds", Rows.laid_seesaw_code_kinds)] w) (fun _ _ _ hh h => h.of_heap hh) lift_own started (by kernel_rfl) Tryd.func9
    (ChangeSpec.witness_shaped (enc := enc) (C := Tryd.checked) (os := os) (X := fun w _ => laidMetH Tryd.prog [("seesaw/code.kinds", Rows.laid_seesaw_code_kinds)] w) false (World.doorLaid Tryd.prog 400 os) #[.agg #[.int .i64 0, .int .i64 0, .int .i64 0, .slice none 0 0, .slice none 0 0], .int .i64 0, .int .i64 0] 8 rfl (World.shaped_of_RefB (by kernel_rfl) (by kernel_rfl)) (by kernel_rfl) (by kernel_rfl) (by kernel_rfl) (door_met os _)) ?_
  intro W base args ds gs before hval0 hW _ _ hL _
  have hval : ∀ (j : Nat) t v, Tryd.f9.params[j]? = some t → args[j]? = some v → Value.okWide Tryd.prog W .any base t v := hval0
  have hW' := hW
  obtain ⟨p, q, hA0, hV, rfl, hfz, hnd⟩ := hW
  have hA : DataW.TrodAll enc Tryd.prog W 0 (fun _ => true) true Tryd.f9.params.toList args.toList ds p := hA0
  rw [Tryd.params9] at hA hval
  obtain ⟨v0, vs0, d0, ds0, p0, q0, hargs, rfl, rfl, h0, r0⟩ := trodAll_cons hA
  obtain ⟨v1, vs1, d1, ds1, p1, q1, rfl, rfl, rfl, h1, r1⟩ := trodAll_cons r0
  obtain ⟨v2, vs2, d2, ds2, p2, q2, rfl, rfl, rfl, h2, r2⟩ := trodAll_cons r1
  obtain ⟨rfl, rfl, rfl⟩ := trodAll_nil r2
  obtain rfl : args = #[v0, v1, v2] := by cases args; simp_all
  obtain ⟨rfl, rfl⟩ := trodVars_none hV
  obtain ⟨n0, su0, hE0⟩ := open_setup (hval 0 25 v0 rfl rfl) h0
  obtain ⟨a1, rfl, rfl, rfl, w1⟩ := open_int Tryd.underlying3 (hval 1 3 v1 rfl rfl) h1
  obtain ⟨a2, rfl, rfl, rfl, w2⟩ := open_int Tryd.underlying3 (hval 2 3 v2 rfl rfl) h2
  clear hA0 hval0
  simp only [List.append_nil] at hW'
  try simp only [List.nil_append] at hW'
  refine (SetupLess_walk v0 n0 su0 hE0 a1 (lit_range w1).1 (lit_range w1).2 a2 (lit_range w2).1 (lit_range w2).2 (kd_of_laid hL)).mono fun e W' ⟨he, hg⟩ => ?_
  subst he
  exact ⟨_, rfl, lift_post (pv := []) hW' (fun _ _ _ => (trodAll_cons_mk (shut_bool Tryd.underlying4 _) trodAll_mk0)) (fun sp hsp => (trodAll_cons_mk (WideElems.Trod_stays SetupLess_laid (by kernel_rfl) (of_decide_eq_true (by kernel_rfl)) h0 (fun x hx => hg.same (hW'.lt x (by simp [hx]))) (fun x hx => hsp x (by simp [hx]))) (trodAll_cons_mk (shut_int Tryd.underlying3 w1) (trodAll_cons_mk (shut_int Tryd.underlying3 w2) trodAll_mk0)))) (fun _ _ => rfl) (by simp)
    hg (ok_one (by kernel_rfl) rfl (okWide_bool_mk Tryd.underlying4 _))⟩
/-- THE STATEMENT of SetupLess: for every input the call returns true, and each argument reads behind it as before. -/
theorem SetupLess_holds : Rows.SetupLessSaid :=
  OpenClaim.holds_of_wide 9 Tryd.f9 rfl rfl rfl rfl rfl rfl rfl ⟨rfl, rfl, rfl, rfl, rfl⟩ rfl rfl rfl rfl rfl (by kernel_rfl) Tryd.func9 (by kernel_rfl)
    (of_decide_eq_true (by kernel_rfl)) (by unfold Func.isWrapper; first | (rw [if_pos (by decide +kernel)]; kernel_rfl) | (rw [if_neg (by decide +kernel)]; exact ⟨rfl, rfl⟩))
    (fun os started H enc _ => SetupLess_lifted os started H enc)
/-- THE TIED CARD of SetupLess. -/
theorem SetupLessCard_holds : Rows.SetupLessCardSaid :=
  Claim7.holds_tied_plain_at .later [] [.data] true Rows.setupLessCard.stood.harness false
    SetupLess_holds (fun _ h => by cases h) (by kernel_rfl) (fun _ h => by cases h) setupLess_row_tie rfl ⟨rfl, rfl⟩ (by kernel_rfl) rfl
    (fun f fn hf hfn => by
      obtain rfl : f = 9 := Option.some.inj ((show Tryd.prog.funcNamed "seesaw/seesawlaw06.SetupLess" = some 9 by kernel_rfl).symm.trans hf) |>.symm
      obtain rfl : fn = Tryd.f9 := (Option.some.inj (Tryd.func9.symm.trans hfn)).symm
      exact ⟨by kernel_rfl, fun j t ht => by
        rw [Tryd.params9] at ht
        have hm : t ∈ [25, 3, 3] := by simpa using Array.mem_of_getElem? ht
        have hall : ([25, 3, 3].all fun u => !Tryd.prog.wantsStandIn u) = true := by kernel_rfl
        exact (show Tryd.prog.wantsStandIn t = false by simpa using List.all_eq_true.1 hall t hm)⟩)
    (by kernel_rfl)
end Go.Proofs.YtnkdaehmdcpafaaDoor
