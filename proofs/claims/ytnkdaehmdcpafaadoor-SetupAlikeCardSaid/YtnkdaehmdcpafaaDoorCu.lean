/-
  CONTRACT OF PACKAGE code's same, and so of Same: whether two statements, two transactions in memory are the same; the memory that was there stays as it was. Conditions: as they stand.
-/
import Derived.Test.YtnkdaehmdcpafaaDoorCs
namespace Go.Proofs.YtnkdaehmdcpafaaDoor
open Go.RowKit
set_option linter.unusedVariables false
set_option maxRecDepth 100000 in
theorem codesame_any (d : Nat) : SameC d := by
  induction d with
  | zero => intro r q s u lo hi lo' hi' w h; exact h.elim
  | succ d ih =>
    intro r q s u lo hi lo' hi' w h h' hhi hhi'
    obtain ⟨k, t, a, b, y, e⟩ := s
    obtain ⟨k', t', a', b', y', e'⟩ := u
    obtain ⟨⟨e1, e2, e3, e4⟩, ⟨q1, q2, q3, q4, q5⟩, ha, hb, hy, he⟩ := h.open_
    obtain ⟨⟨f1, f2, f3, f4⟩, ⟨p1, p2, p3, p4, p5⟩, ha', hb', hy', he'⟩ := h'.open_
    obtain ⟨rk, rt, rao, ran, raA, ral, rac, rbo, rbn, rbA, rbl, rbc, ryA, ryl, ryc, reA, rel, r9c⟩ := r
    obtain ⟨qk, qt, qao, qan, qaA, qal, qac, qbo, qbn, qbA, qbl, qbc, qyA, qyl, qyc, qeA, qel, q9c⟩ := q
    dsimp only at e1 e2 e3 e4 f1 f2 f3 f4 hy he hy' he'
    subst e1 e2 e3 e4 f1 f2 f3 f4
    clear h h'
    dsimp only [Raw.v]
    dsimp only [Raw.va] at ha ha'
    dsimp only [Raw.vb] at hb hb'
    obtain ⟨W, hW⟩ : ∃ W, W = (w.alloc (.cells #[.int .u8 rk, .int .i64 rt, .int .u8 rao, .int .i64 ran, .slice raA ral rac, .int .u8 rbo, .int .i64 rbn, .slice rbA rbl rbc, .slice ryA y.length ryc, .slice reA e.length r9c] 39)).alloc (.cells #[.int .u8 qk, .int .i64 qt, .int .u8 qao, .int .i64 qan, .slice qaA qal qac, .int .u8 qbo, .int .i64 qbn, .slice qbA qbl qbc, .slice qyA y'.length qyc, .slice qeA e'.length q9c] 39) := ⟨_, rfl⟩
    have hB1 : Below w.heap.size w W := by rw [hW]; exact ((Below.refl _ w).alloc (Nat.le_refl _) _).alloc (by simp) _
    have hz1 : W.heap.size = w.heap.size + 2 := by rw [hW]; simp
    have tW : Ten W ⟨w.heap.size, 0, none⟩ ⟨rk, rt, rao, ran, raA, ral, rac, rbo, rbn, rbA, rbl, rbc, ryA, y.length, ryc, reA, e.length, r9c⟩ := by rw [hW]; exact (Ten.new w ⟨rk, rt, rao, ran, raA, ral, rac, rbo, rbn, rbA, rbl, rbc, ryA, y.length, ryc, reA, e.length, r9c⟩).below ((Below.refl _ _).alloc (Nat.le_refl _) _) (by simp)
    have uW : Ten W ⟨w.heap.size + 1, 0, none⟩ ⟨qk, qt, qao, qan, qaA, qal, qac, qbo, qbn, qbA, qbl, qbc, qyA, y'.length, qyc, qeA, e'.length, q9c⟩ := by
      have := Ten.new (w.alloc (.cells #[.int .u8 rk, .int .i64 rt, .int .u8 rao, .int .i64 ran, .slice raA ral rac, .int .u8 rbo, .int .i64 rbn, .slice rbA rbl rbc, .slice ryA y.length ryc, .slice reA e.length r9c] 39)) ⟨qk, qt, qao, qan, qaA, qal, qac, qbo, qbn, qbA, qbl, qbc, qyA, y'.length, qyc, qeA, e'.length, q9c⟩
      rw [hW]
      simpa using this
    have HA := Lib.hid (fun (W' : World) (h' : Below W.heap.size W W') => same_any d a a' _ _ lo hi lo' hi' W' (ha.below (hB1.trans (h'.mono hB1.size)) hhi) (ha'.below (hB1.trans (h'.mono hB1.size)) hhi') (by have := h'.size; omega) (by have := h'.size; omega))
    have HB := Lib.hid (fun (W' : World) (h' : Below W.heap.size W W') => same_any d b b' _ _ lo hi lo' hi' W' (hb.below (hB1.trans (h'.mono hB1.size)) hhi) (hb'.below (hB1.trans (h'.mono hB1.size)) hhi') (by have := h'.size; omega) (by have := h'.size; omega))
    have HY := Lib.hid (fun (W' : World) (h' : Below W.heap.size W W') => codesame_block d ih y y' _ _ ryc qyc lo hi lo' hi' W' (hy.below (hB1.trans (h'.mono hB1.size)) hhi) (hy'.below (hB1.trans (h'.mono hB1.size)) hhi') (by have := h'.size; omega) (by have := h'.size; omega) q4 p4)
    have HE := Lib.hid (fun (W' : World) (h' : Below W.heap.size W W') => codesame_block d ih e e' _ _ r9c q9c lo hi lo' hi' W' (he.below (hB1.trans (h'.mono hB1.size)) hhi) (he'.below (hB1.trans (h'.mono hB1.size)) hhi') (by have := h'.size; omega) (by have := h'.size; omega) q5 p5)
    have hs : sameS (d + 1) (.node rk rt a b y e) (.node qk qt a' b' y' e') = (decide (rk = qk) && (decide (rt = qt) && (sameF d a a' && (sameF d b b' && (sameSL (sameS d) y y' && sameSL (sameS d) e e'))))) := rfl
    have HB1 := Lib.hid hB1
    have HZ := Lib.hid hz1
    have HT := Lib.hid (fun (W' : World) (h' : Below W.heap.size W W') => tW.below h' (by show w.heap.size < _; omega))
    have HU := Lib.hid (fun (W' : World) (h' : Below W.heap.size W W') => uW.below h' (by show w.heap.size + 1 < _; omega))
    have c0 := tW.c0
    have c1 := tW.c1
    have d0 := uW.c0
    have d1 := uW.c1
    dsimp only at c0 c1 d0 d1
    rw [Nat.zero_add] at c1 d1
    clear ha hb hy he ha' hb' hy' he' ih hB1 hz1 tW uW
    by_cases x1 : rk = qk
    case neg =>
      have HV : Hid (sameS (d + 1) (.node rk rt a b y e) (.node qk qt a' b' y' e') = false) := by show _ = _; rw [hs, decide_eq_false x1]; rfl
      have t1 : ((rk : Int) == (qk : Int)) = false := beq_eq_false_iff_ne.2 (by omega)
      clear HA HB HY HE hs x1 c0 c1 d0 d1
      subst hW
      go_enter Tryd.func65, Tryd.ntmps65
      go_wp2_with fail
      go_ret
      exact ⟨by rw [HV.out]; rfl, HB1.out⟩
    have t1 : ((rk : Int) == (qk : Int)) = true := beq_iff_eq.2 (by omega)
    rw [decide_eq_true x1, Bool.true_and] at hs
    clear x1
    by_cases x2 : rt = qt
    case neg =>
      have HV : Hid (sameS (d + 1) (.node rk rt a b y e) (.node qk qt a' b' y' e') = false) := by show _ = _; rw [hs, decide_eq_false x2]; rfl
      have t2 : (rt == qt) = false := beq_eq_false_iff_ne.2 x2
      clear HA HB HY HE hs x2 c0 c1 d0 d1
      subst hW
      go_enter Tryd.func65, Tryd.ntmps65
      go_wp2_with fail
      go_ret
      exact ⟨by rw [HV.out]; rfl, HB1.out⟩
    have t2 : (rt == qt) = true := beq_iff_eq.2 x2
    rw [decide_eq_true x2, Bool.true_and] at hs
    clear x2
    go_enter Tryd.func65, Tryd.ntmps65
    go_upto_region 1 with fail
    rw [← hW]
    clear hW
    have c2 := (HT.out W (Below.refl _ _)).c2
    have c3 := (HT.out W (Below.refl _ _)).c3
    have c4 := (HT.out W (Below.refl _ _)).c4
    have d2 := (HU.out W (Below.refl _ _)).c2
    have d3 := (HU.out W (Below.refl _ _)).c3
    have d4 := (HU.out W (Below.refl _ _)).c4
    dsimp only at c2 c3 c4 d2 d3 d4
    rw [Nat.zero_add] at c2 c3 c4 d2 d3 d4
    go_wp2_with fail
    refine (HA.out W (Below.refl _ _)).mono ?_
    rintro z w5 ⟨rfl, b5⟩
    clear c0 c1 c2 c3 c4 d0 d1 d2 d3 d4 t1 t2 HA
    cases x3 : sameF d a a' with
    | false =>
      have HV : Hid (sameS (d + 1) (.node rk rt a b y e) (.node qk qt a' b' y' e') = false) := by show _ = _; rw [hs, x3]; rfl
      clear HB HY HE hs x3
      go_wp2_with fail
      go_ret
      exact ⟨by rw [HV.out]; rfl, HB1.out.trans (b5.mono HB1.out.size)⟩
    | true =>
    rw [x3, Bool.true_and] at hs
    clear x3
    have c5 := (HT.out w5 b5).c5
    have c6 := (HT.out w5 b5).c6
    have c7 := (HT.out w5 b5).c7
    have d5 := (HU.out w5 b5).c5
    have d6 := (HU.out w5 b5).c6
    have d7 := (HU.out w5 b5).c7
    dsimp only at c5 c6 c7 d5 d6 d7
    rw [Nat.zero_add] at c5 c6 c7 d5 d6 d7
    go_wp2_with fail
    refine (HB.out w5 b5).mono ?_
    rintro z w6 ⟨rfl, b6⟩
    have g6 := b5.trans (b6.mono b5.size)
    clear c5 c6 c7 d5 d6 d7 HB b6 b5
    cases x4 : sameF d b b' with
    | false =>
      have HV : Hid (sameS (d + 1) (.node rk rt a b y e) (.node qk qt a' b' y' e') = false) := by show _ = _; rw [hs, x4]; rfl
      clear HY HE hs x4
      go_wp2_with fail
      go_ret
      exact ⟨by rw [HV.out]; rfl, HB1.out.trans (g6.mono HB1.out.size)⟩
    | true =>
    rw [x4, Bool.true_and] at hs
    clear x4
    have c8 := (HT.out w6 g6).c8
    have d8 := (HU.out w6 g6).c8
    dsimp only at c8 d8
    rw [Nat.zero_add] at c8 d8
    go_wp2_with fail
    refine (HY.out w6 g6).mono ?_
    rintro z w7 ⟨rfl, b7⟩
    have g7 := g6.trans (b7.mono g6.size)
    clear c8 d8 HY b7
    cases x5 : sameSL (sameS d) y y' with
    | false =>
      have HV : Hid (sameS (d + 1) (.node rk rt a b y e) (.node qk qt a' b' y' e') = false) := by show _ = _; rw [hs, x5]; rfl
      clear HE hs x5
      go_wp2_with fail
      go_ret
      exact ⟨by rw [HV.out]; rfl, HB1.out.trans (g7.mono HB1.out.size)⟩
    | true =>
    rw [x5, Bool.true_and] at hs
    clear x5
    have c9 := (HT.out w7 g7).c9
    have d9 := (HU.out w7 g7).c9
    dsimp only at c9 d9
    rw [Nat.zero_add] at c9 d9
    obtain ⟨bv, hbv⟩ : ∃ bv, bv = sameSL (sameS d) e e' := ⟨_, rfl⟩
    rw [← hbv] at HE hs
    have HV := Lib.hid hs
    clear hs hbv
    go_wp2_with fail
    refine (HE.out w7 g7).mono ?_
    rintro z w8 ⟨rfl, b8⟩
    go_wp2_with fail
    go_ret
    exact ⟨by rw [HV.out]; rfl, HB1.out.trans ((g7.trans (b8.mono g7.size)).mono HB1.out.size)⟩
theorem codesame_of (d : Nat) (args brgs : List St) (A B : Option Addr) (c c' lo hi lo' hi' : Nat) (w : World) (hk : SKids w lo hi d A args) (hk' : SKids w lo' hi' d B brgs) (hhi : hi ≤ w.heap.size) (hhi' : hi' ≤ w.heap.size) (q4 : args.length ≤ 9223372036854775807) (p4 : brgs.length ≤ 9223372036854775807) :
    Calls Tryd.prog 56 #[.slice A args.length c, .slice B brgs.length c'] w fun r w' => r = .returned (.bool (sameSL (sameS d) args brgs)) ∧ Below w.heap.size w w' := codesame_block d (codesame_any d) args brgs A B c c' lo hi lo' hi' w hk hk' hhi hhi' q4 p4
end Go.Proofs.YtnkdaehmdcpafaaDoor
