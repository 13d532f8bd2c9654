/-
  CONTRACT OF PACKAGE code's shaped: whether a statement of the transaction n is shaped; the memory that was there stays as it was. Conditions: the table of what each Kind asks lies as its initialiser lays it; as they stand.
-/
import Derived.Test.YtnkdaehmdcpafaaDoorSh
namespace Go.Proofs.YtnkdaehmdcpafaaDoor
open Go.RowKit
set_option linter.unusedVariables false
theorem uncons {n : Nat} (us : List Value) (h : us.length = n + 1) : ∃ u r, us = u :: r ∧ r.length = n := by
  cases us with
  | nil => cases h
  | cons u r => exact ⟨u, r, rfl, by simpa using h⟩
theorem len33 (us : List Value) (h : us.length = 33) : ∃ u0 u1 u2 u3 u4 u5 u6 u7 u8 u9 u10 u11 u12 u13 u14 u15 u16 u17 u18 u19 u20 u21 u22 u23 u24 u25 u26 u27 u28 u29 u30 u31 u32, us = u0 :: u1 :: u2 :: u3 :: u4 :: u5 :: u6 :: u7 :: u8 :: u9 :: u10 :: u11 :: u12 :: u13 :: u14 :: u15 :: u16 :: u17 :: u18 :: u19 :: u20 :: u21 :: u22 :: u23 :: u24 :: u25 :: u26 :: u27 :: u28 :: u29 :: u30 :: u31 :: u32 :: [] := by
  obtain ⟨u0, r0, rfl, h0⟩ := uncons us h
  obtain ⟨u1, r1, rfl, h1⟩ := uncons r0 h0
  obtain ⟨u2, r2, rfl, h2⟩ := uncons r1 h1
  obtain ⟨u3, r3, rfl, h3⟩ := uncons r2 h2
  obtain ⟨u4, r4, rfl, h4⟩ := uncons r3 h3
  obtain ⟨u5, r5, rfl, h5⟩ := uncons r4 h4
  obtain ⟨u6, r6, rfl, h6⟩ := uncons r5 h5
  obtain ⟨u7, r7, rfl, h7⟩ := uncons r6 h6
  obtain ⟨u8, r8, rfl, h8⟩ := uncons r7 h7
  obtain ⟨u9, r9, rfl, h9⟩ := uncons r8 h8
  obtain ⟨u10, r10, rfl, h10⟩ := uncons r9 h9
  obtain ⟨u11, r11, rfl, h11⟩ := uncons r10 h10
  obtain ⟨u12, r12, rfl, h12⟩ := uncons r11 h11
  obtain ⟨u13, r13, rfl, h13⟩ := uncons r12 h12
  obtain ⟨u14, r14, rfl, h14⟩ := uncons r13 h13
  obtain ⟨u15, r15, rfl, h15⟩ := uncons r14 h14
  obtain ⟨u16, r16, rfl, h16⟩ := uncons r15 h15
  obtain ⟨u17, r17, rfl, h17⟩ := uncons r16 h16
  obtain ⟨u18, r18, rfl, h18⟩ := uncons r17 h17
  obtain ⟨u19, r19, rfl, h19⟩ := uncons r18 h18
  obtain ⟨u20, r20, rfl, h20⟩ := uncons r19 h19
  obtain ⟨u21, r21, rfl, h21⟩ := uncons r20 h20
  obtain ⟨u22, r22, rfl, h22⟩ := uncons r21 h21
  obtain ⟨u23, r23, rfl, h23⟩ := uncons r22 h22
  obtain ⟨u24, r24, rfl, h24⟩ := uncons r23 h23
  obtain ⟨u25, r25, rfl, h25⟩ := uncons r24 h24
  obtain ⟨u26, r26, rfl, h26⟩ := uncons r25 h25
  obtain ⟨u27, r27, rfl, h27⟩ := uncons r26 h26
  obtain ⟨u28, r28, rfl, h28⟩ := uncons r27 h27
  obtain ⟨u29, r29, rfl, h29⟩ := uncons r28 h28
  obtain ⟨u30, r30, rfl, h30⟩ := uncons r29 h29
  obtain ⟨u31, r31, rfl, h31⟩ := uncons r30 h30
  obtain ⟨u32, r32, rfl, h32⟩ := uncons r31 h31
  obtain rfl := List.eq_nil_of_length_eq_zero h32
  exact ⟨_, _, _, _, _, _, _, _, _, _, _, _, _, _, _, _, _, _, _, _, _, _, _, _, _, _, _, _, _, _, _, _, _, rfl⟩
set_option maxRecDepth 100000 in
theorem shaped_in (d : Nat) (rk : Nat) (rt : Int) (rao : Nat) (ran : Int) (raA : Option Addr) (ral rac rbo : Nat) (rbn : Int) (rbA : Option Addr) (rbl rbc : Nat) (ryA : Option Addr) (ryl ryc : Nat) (reA : Option Addr) (rel r9c : Nat) (a b : Ex) (n : Int) (lo hi : Nat) (w : World) (h1 : 1 ≤ rk) (h8 : rk ≤ 8)
    (n0 : -9223372036854775808 ≤ n) (n1 : n < 9223372036854775808) (t0 : -9223372036854775808 ≤ rt) (t1 : rt < 9223372036854775808) (ll : ryl ≤ 9223372036854775807) (le : rel ≤ 9223372036854775807) (hkd : Kd w) (hhi : hi ≤ w.heap.size)
    (ha : At w lo hi d (.agg #[.int .u8 rao, .int .i64 ran, .slice raA ral rac]) a) (hb : At w lo hi d (.agg #[.int .u8 rbo, .int .i64 rbn, .slice rbA rbl rbc]) b)
    (qto qa qb qy qe : Bool) (hq : ask rk = ⟨qto, qa, qb, qy, qe⟩) :
    Calls Tryd.prog 59 #[.agg #[.int .u8 rk, .int .i64 rt, .int .u8 rao, .int .i64 ran, .slice raA ral rac, .int .u8 rbo, .int .i64 rbn, .slice rbA rbl rbc, .slice ryA ryl ryc, .slice reA rel r9c], .int .i64 n] w fun e w' =>
      e = .returned (.bool ((((qto || rt != 0) == qto) && (((!noneE a) == qa) && (((!noneE b) == qb) && (((qy || decide (0 < ryl)) == qy) && ((qe || decide (0 < rel)) == qe))))) && (decide (0 ≤ rt) && (decide (rt < 8) && (mayE d a n && mayE d b n))))) ∧ Below w.heap.size w w' := by
  have tn := Ten.new w ⟨rk, rt, rao, ran, raA, ral, rac, rbo, rbn, rbA, rbl, rbc, ryA, ryl, ryc, reA, rel, r9c⟩
  have hB0 : Below w.heap.size w (w.alloc (.cells #[.int .u8 rk, .int .i64 rt, .int .u8 rao, .int .i64 ran, .slice raA ral rac, .int .u8 rbo, .int .i64 rbn, .slice rbA rbl rbc, .slice ryA ryl ryc, .slice reA rel r9c] 39)) := (Below.refl _ _).alloc (Nat.le_refl _) _
  have hk0 := hkd.below hB0 (Nat.le_refl _) rk (by omega)
  rw [hq] at hk0
  obtain ⟨k0, k1, k2, k3, k4⟩ := hk0
  dsimp only at k0 k1 k2 k3 k4 tn
  have c0 := tn.c0
  have c1 := tn.c1
  have c2 := tn.c2
  dsimp only at c0 c1 c2
  clear hq
  have z0 : w.heap.size < (w.alloc (.cells #[.int .u8 rk, .int .i64 rt, .int .u8 rao, .int .i64 ran, .slice raA ral rac, .int .u8 rbo, .int .i64 rbn, .slice rbA rbl rbc, .slice ryA ryl ryc, .slice reA rel r9c] 39)).heap.size := by simp
  go_enter Tryd.func59, Tryd.ntmps59
  go_upto_region 4 with fail
  obtain ⟨W, hW⟩ : ∃ W, W = (w.alloc (.cells #[.int .u8 rk, .int .i64 rt, .int .u8 rao, .int .i64 ran, .slice raA ral rac, .int .u8 rbo, .int .i64 rbn, .slice rbA rbl rbc, .slice ryA ryl ryc, .slice reA rel r9c] 39)).alloc (.cells #[.bool qto, .bool qa, .bool qb, .bool qy, .bool qe] 87) := ⟨_, rfl⟩
  have hB1 : Below w.heap.size w W := by rw [hW]; exact hB0.alloc (by simp) _
  have hz1 : W.heap.size = w.heap.size + 2 := by rw [hW]; simp
  have tW : Ten W ⟨w.heap.size, 0, none⟩ ⟨rk, rt, rao, ran, raA, ral, rac, rbo, rbn, rbA, rbl, rbc, ryA, ryl, ryc, reA, rel, r9c⟩ := by rw [hW]; exact tn.below ((Below.refl _ _).alloc (Nat.le_refl _) _) z0
  have qW : Five W (w.heap.size + 1) qto qa qb qy qe := by
    have := Five.new (w.alloc (.cells #[.int .u8 rk, .int .i64 rt, .int .u8 rao, .int .i64 ran, .slice raA ral rac, .int .u8 rbo, .int .i64 rbn, .slice rbA rbl rbc, .slice ryA ryl ryc, .slice reA rel r9c] 39)) qto qa qb qy qe
    rw [hW]
    simpa using this
  rw [← hW]
  clear hW tn hB0 k0 k1 k2 k3 k4 c0 c1 c2 z0
  refine shaped_region _ (by kernel_rfl) rfl rfl rfl (by kernel_rfl) W _ rfl w.heap.size (w.heap.size + 1) rk rt rao ran raA ral rac rbo rbn rbA rbl rbc ryA ryl ryc reA rel r9c qto qa qb qy qe (noneE a) (noneE b) rfl rfl tW qW (by omega) (by omega)
    (fun W' h' => none_any d a _ lo hi W' (ha.below (hB1.trans (h'.mono hB1.size)) hhi)) (fun W' h' => none_any d b _ lo hi W' (hb.below (hB1.trans (h'.mono hB1.size)) hhi)) (fun us w' g' hu h32 hge hlt hB hF => ?_)
  obtain ⟨u0, u1, u2, u3, u4, u5, u6, u7, u8, u9, u10, u11, u12, u13, u14, u15, u16, u17, u18, u19, u20, u21, u22, u23, u24, u25, u26, u27, u28, u29, u30, u31, u32, rfl⟩ := len33 us hu
  have h32' : u32 = .pointer (some ⟨g', 0, none⟩) := h32
  subst h32'
  have t' := (tW.below hB (by show w.heap.size < _; omega)).c1
  have q' := qW.below hB (by omega)
  dsimp only at t'
  rw [Nat.zero_add] at t'
  have HBB : Hid (Below w.heap.size w w') := hB1.trans (hB.mono hB1.size)
  have HA := Lib.hid (fun (W' : World) (h' : Below w'.heap.size w' W') => maybe_any d a _ lo hi n n0 n1 W' (ha.below ((HBB.out).trans (h'.mono HBB.out.size)) hhi) (by have := HBB.out.size; have := h'.size; omega))
  have HB := Lib.hid (fun (W' : World) (h' : Below w'.heap.size w' W') => maybe_any d b _ lo hi n n0 n1 W' (hb.below ((HBB.out).trans (h'.mono HBB.out.size)) hhi) (by have := HBB.out.size; have := h'.size; omega))
  have TT := Lib.hid (tW.below hB (by show w.heap.size < _; omega))
  have f0 := hF.c0
  have f1 := hF.c1
  have f2 := hF.c2
  have f3 := hF.c3
  have f4 := hF.c4
  have g0 := q'.c0
  have g1 := q'.c1
  have g2 := q'.c2
  have g3 := q'.c3
  have g4 := q'.c4
  have HEQ := Lib.hid (eql_asks (qto || rt != 0) (!noneE a) (!noneE b) (qy || decide (0 < ryl)) (qe || decide (0 < rel)) qto qa qb qy qe)
  clear tW qW hF q' hu h32 hB ha hb hB1
  obtain ⟨x0, hx0⟩ : ∃ x0, x0 = (qto || rt != 0) := ⟨_, rfl⟩
  obtain ⟨x1, hx1⟩ : ∃ x1, x1 = !noneE a := ⟨_, rfl⟩
  obtain ⟨x2, hx2⟩ : ∃ x2, x2 = !noneE b := ⟨_, rfl⟩
  obtain ⟨x3, hx3⟩ : ∃ x3, x3 = (qy || decide (0 < ryl)) := ⟨_, rfl⟩
  obtain ⟨x4, hx4⟩ : ∃ x4, x4 = (qe || decide (0 < rel)) := ⟨_, rfl⟩
  rw [← hx0] at HEQ f0
  rw [← hx1] at HEQ f1
  rw [← hx2] at HEQ f2
  rw [← hx3] at HEQ f3
  rw [← hx4] at HEQ f4
  simp only [shDs, putAll, List.setIfInBounds_toArray, List.set_cons_succ, List.set_cons_zero]
  obtain ⟨q, hq⟩ : ∃ q, q = (x0 == qto && (x1 == qa && (x2 == qb && (x3 == qy && x4 == qe)))) := ⟨_, rfl⟩
  have HRES : Hid (((((qto || rt != 0) == qto) && (((!noneE a) == qa) && (((!noneE b) == qb) && (((qy || decide (0 < ryl)) == qy) && ((qe || decide (0 < rel)) == qe))))) && (decide (0 ≤ rt) && (decide (rt < 8) && (mayE d a n && mayE d b n)))) = (q && (decide (0 ≤ rt) && (decide (rt < 8) && (mayE d a n && mayE d b n))))) := by
    show _ = _
    rw [hq, hx0, hx1, hx2, hx3, hx4]
  rw [← hq] at HEQ
  clear hq hx0 hx1 hx2 hx3 hx4 hkd ll le h1 h8
  have z2 : w.heap.size < w'.heap.size := by omega
  have heq := HEQ.out
  cases q with
  | false =>
    clear HA HB TT
    go_wp2_with fail
    go_ret
    exact ⟨by rw [HRES.out]; rfl, HBB.out⟩
  | true =>
    by_cases l0 : 0 ≤ rt
    · by_cases l8 : rt < 8
      · have c2 := TT.out.c2
        have c3 := TT.out.c3
        have c4 := TT.out.c4
        dsimp only at c2 c3 c4
        rw [Nat.zero_add] at c2 c3 c4
        cases hma : mayE d a n with
        | false =>
          have HV : Hid ((true && (decide (0 ≤ rt) && (decide (rt < 8) && (mayE d a n && mayE d b n)))) = false) := by show _ = _; rw [hma]; simp
          rw [hma] at HA
          clear HB hma
          go_wp2_with fail
          refine (HA.out _ (Below.refl _ _)).mono ?_
          rintro e w10 ⟨rfl, b10⟩
          go_wp2_with fail
          go_ret
          exact ⟨by rw [HRES.out, HV.out]; rfl, HBB.out.trans (b10.mono HBB.out.size)⟩
        | true =>
          have HV : Hid ((true && (decide (0 ≤ rt) && (decide (rt < 8) && (mayE d a n && mayE d b n)))) = mayE d b n) := by show _ = _; rw [hma, decide_eq_true l0, decide_eq_true l8]; simp
          rw [hma] at HA
          obtain ⟨m, hm⟩ : ∃ m, m = mayE d b n := ⟨_, rfl⟩
          rw [← hm] at HB
          have HV2 : Hid (mayE d b n = m) := hm.symm
          clear hma hm
          go_wp2_with fail
          refine (HA.out _ (Below.refl _ _)).mono ?_
          rintro e w10 ⟨rfl, b10⟩
          have c5 := ((TT.out.below b10 z2).c5)
          have c6 := ((TT.out.below b10 z2).c6)
          have c7 := ((TT.out.below b10 z2).c7)
          dsimp only at c5 c6 c7
          rw [Nat.zero_add] at c5 c6 c7
          clear c2 c3 c4
          go_wp2_with fail
          refine (HB.out _ b10).mono ?_
          rintro e w11 ⟨rfl, b11⟩
          go_wp2_with fail
          go_ret
          exact ⟨by rw [HRES.out, HV.out, HV2.out]; rfl, HBB.out.trans ((b10.trans (b11.mono b10.size)).mono HBB.out.size)⟩
      · have HV : Hid ((true && (decide (0 ≤ rt) && (decide (rt < 8) && (mayE d a n && mayE d b n)))) = false) := by show _ = _; rw [decide_eq_false l8]; simp
        have l9 : decide (rt < 8) = false := decide_eq_false l8
        clear HA HB TT l8
        go_wp2_with fail
        go_ret
        exact ⟨by rw [HRES.out, HV.out]; rfl, HBB.out⟩
    · have HV : Hid ((true && (decide (0 ≤ rt) && (decide (rt < 8) && (mayE d a n && mayE d b n)))) = false) := by show _ = _; rw [decide_eq_false l0]; simp
      have l9 : decide (0 ≤ rt) = false := decide_eq_false l0
      clear HA HB TT l0
      go_wp2_with fail
      go_ret
      exact ⟨by rw [HRES.out, HV.out]; rfl, HBB.out⟩
theorem ask_eta (k : Nat) : ask k = ⟨(ask k).to, (ask k).a, (ask k).b, (ask k).body, (ask k).els⟩ := rfl
theorem shaped_any (d : Nat) (r : Raw) (s : St) (lo hi : Nat) (w : World) (n : Int) (n0 : -9223372036854775808 ≤ n) (n1 : n < 9223372036854775808) (hkd : Kd w) (h : SAt w lo hi d r s) (hhi : hi ≤ w.heap.size) :
    Calls Tryd.prog 59 #[r.v, .int .i64 n] w fun e w' => e = .returned (.bool (shapedF d s n)) ∧ Below w.heap.size w w' := by
  obtain ⟨d, rfl⟩ := h.pos
  obtain ⟨k, t, a, b, y, e⟩ := s
  obtain ⟨⟨e1, e2, e3, e4⟩, ⟨q1, q2, q3, q4, q5⟩, ha, hb, hy, he⟩ := h.open_
  obtain ⟨rk, rt, rao, ran, raA, ral, rac, rbo, rbn, rbA, rbl, rbc, ryA, ryl, ryc, reA, rel, r9c⟩ := r
  dsimp only at e1 e2 e3 e4
  subst e1 e2 e3 e4
  by_cases hr : rk < 1 ∨ 8 < rk
  · have hv : shapedF (d + 1) (.node rk rt a b y e) n = false := by unfold shapedF; exact if_pos hr
    rw [hv]
    exact shaped_out d rk rt rao ran raA ral rac rbo rbn rbA rbl rbc ryA y.length ryc reA e.length r9c n w hr
  · have hv : shapedF (d + 1) (.node rk rt a b y e) n = (hasF (ask rk) (.node rk rt a b y e) && (decide (0 ≤ rt) && (decide (rt < 8) && (mayE (d + 1) a n && mayE (d + 1) b n)))) := by unfold shapedF; exact if_neg hr
    rw [hv]
    exact shaped_in (d + 1) rk rt rao ran raA ral rac rbo rbn rbA rbl rbc ryA y.length ryc reA e.length r9c a b n lo hi w (by omega) (by omega) n0 n1 q2 q3 q4 q5 hkd hhi (ha.more _ _ (by omega)) (hb.more _ _ (by omega)) _ _ _ _ _ (ask_eta rk)
end Go.Proofs.YtnkdaehmdcpafaaDoor
