/-
  CONTRACT OF seesawref06's Same (the document's own answer of layer 6): whether two setups are the same; the memory that was there stays as it was. Conditions: as they stand.
-/
import Derived.Test.YtpgkhodofhnpnaaDoorZd
import Derived.Test.YtpgkhodofhnpnaaDoorUx
import Derived.Test.YtpgkhodofhnpnaaDoorQa
import Derived.StillTailTactics
namespace Go.Proofs.YtpgkhodofhnpnaaDoor
set_option maxRecDepth 100000
open Go.RowKit
set_option linter.unusedVariables false
set_option maxRecDepth 100000 in
set_option maxHeartbeats 8000000 in
theorem rsame6_any (d : Nat) (s t : Su) (I T I' T' : Option Addr) (c c' b b' lo hi lo' hi' : Nat) (w : World) (h : SuAt w lo hi d I T s) (h' : SuAt w lo' hi' d I' T' t) (hhi : hi ≤ w.heap.size) (hhi' : hi' ≤ w.heap.size) :
    Calls Tryd.prog 17 #[.agg #[.int .i64 s.st, .int .i64 s.cl, .int .i64 s.tr, .slice I s.init.length c, .slice T s.thr.length c'], .agg #[.int .i64 t.st, .int .i64 t.cl, .int .i64 t.tr, .slice I' t.init.length b, .slice T' t.thr.length b']] w fun e w' => e = .returned (.bool (sameU d s t)) ∧ Below w.heap.size w w' := by
  have HE := Lib.hid (fun W' (h1 : Below w.heap.size w W') => rints_same s.init t.init I I' c b hi hi' W' (h.ini.below h1 hhi) (h'.ini.below h1 hhi') (Nat.le_trans hhi h1.size) (Nat.le_trans hhi' h1.size))
  have HT := Lib.hid (fun W' (h1 : Below w.heap.size w W') => h.thr.below h1 hhi)
  have HT' := Lib.hid (fun W' (h1 : Below w.heap.size w W') => h'.thr.below h1 hhi')
  have l2 := h.len
  have l2' := h'.len
  obtain ⟨st, cl, tr, ini, thr⟩ := s
  obtain ⟨st', cl', tr', ini', thr'⟩ := t
  dsimp only at *
  have HV : Hid (sameU d ⟨st, cl, tr, ini, thr⟩ ⟨st', cl', tr', ini', thr'⟩ = (decide (st = st') && (decide (cl = cl') && (decide (tr = tr') && (decide (ini = ini') && sameA d thr thr'))))) := rfl
  obtain ⟨U, hU⟩ : ∃ u, u = sameU d ⟨st, cl, tr, ini, thr⟩ ⟨st', cl', tr', ini', thr'⟩ := ⟨_, rfl⟩
  rw [← hU] at HV ⊢
  obtain ⟨x1, hx1⟩ : ∃ x, x = decide (ini = ini') := ⟨_, rfl⟩
  rw [← hx1] at HE HV
  have HLEN := Lib.hid (fun h => sameG_len (sameT d) thr thr' h)
  have HD := Lib.hid (fun k h1 h2 => sameG_drop (sameT d) thr thr' k h1 h2)
  have HEND : Hid (thr.length = thr'.length → sameG (sameT d) (thr.drop thr.length) (thr'.drop thr.length) = true) := fun he => by
    rw [List.drop_length, List.drop_eq_nil_of_le (by omega)]
    rfl
  obtain ⟨N, hN⟩ : ∃ N, N = ini.length := ⟨_, rfl⟩
  obtain ⟨N', hN'⟩ : ∃ N, N = ini'.length := ⟨_, rfl⟩
  obtain ⟨M, hM⟩ : ∃ N, N = thr.length := ⟨_, rfl⟩
  obtain ⟨M', hM'⟩ : ∃ N, N = thr'.length := ⟨_, rfl⟩
  have HM := Lib.hid (And.intro hM hM')
  rw [← hN, ← hN'] at HE
  rw [← hM] at HEND HLEN l2
  rw [← hM'] at HEND HLEN l2'
  rw [← hN, ← hN', ← hM, ← hM']
  have b0 := sfive_below w st cl tr I N c T M c'
  have n0 := SFive.new w st cl tr I N c T M c'
  have z0 : (w.alloc (.cells #[.int .i64 st, .int .i64 cl, .int .i64 tr, .slice I N c, .slice T M c'] 29)).heap.size = w.heap.size + 1 := by simp
  have b1 := sfive_below (w.alloc (.cells #[.int .i64 st, .int .i64 cl, .int .i64 tr, .slice I N c, .slice T M c'] 29)) st' cl' tr' I' N' b T' M' b'
  have n1 := SFive.new (w.alloc (.cells #[.int .i64 st, .int .i64 cl, .int .i64 tr, .slice I N c, .slice T M c'] 29)) st' cl' tr' I' N' b T' M' b'
  have n0' := n0.below b1 (by omega)
  have hb := b0.trans (b1.mono b0.size)
  obtain ⟨W2, hW2⟩ : ∃ W, W = (w.alloc (.cells #[.int .i64 st, .int .i64 cl, .int .i64 tr, .slice I N c, .slice T M c'] 29)).alloc (.cells #[.int .i64 st', .int .i64 cl', .int .i64 tr', .slice I' N' b, .slice T' M' b'] 29) := ⟨_, rfl⟩
  have z2 : W2.heap.size = w.heap.size + 2 := by rw [hW2]; simp
  rw [← hW2] at n0' n1 hb
  rw [z0] at n1
  have HN := Lib.hid (fun W' (h1 : Below W2.heap.size W2 W') => And.intro (n0'.below h1 (by omega)) (n1.below h1 (by omega)))
  have HB := Lib.hid hb
  have HW2 := Lib.hid (And.intro hW2 z2)
  have c0 := n0'.c0
  have c1 := n0'.c1
  have c2 := n0'.c2
  have c3 := n0'.c3
  have d0 := n1.c0
  have d1 := n1.c1
  have d2 := n1.c2
  have d3 := n1.c3
  clear h h' n0 n1 n0' b0 b1 hb z0 z2 hW2 hU hx1 hN hN' hM hM'
  go_enter Tryd.func17, Tryd.ntmps17
  go_upto_region 1 with fail
  rw [← HW2.out.1]
  by_cases e1 : st = st'
  case neg =>
    have i1 : (st != st') = true := bne_iff_ne.2 e1
    have HF : Hid (U = false) := by show _ = _; rw [HV.out, decide_eq_false e1]; rfl
    go_wp2_with fail
    go_ret
    exact ⟨by rw [HF.out]; rfl, HB.out⟩
  have i1 : (st != st') = false := bne_eq_false_iff_eq.2 e1
  have E1 := Lib.hid e1
  clear e1
  by_cases e2 : cl = cl'
  case neg =>
    have i2 : (cl != cl') = true := bne_iff_ne.2 e2
    have HF : Hid (U = false) := by show _ = _; rw [HV.out, decide_eq_false e2]; simp
    go_wp2_with fail
    go_ret
    exact ⟨by rw [HF.out]; rfl, HB.out⟩
  have i2 : (cl != cl') = false := bne_eq_false_iff_eq.2 e2
  have E2 := Lib.hid e2
  clear e2
  by_cases e3 : tr = tr'
  case neg =>
    have i3 : (tr != tr') = true := bne_iff_ne.2 e3
    have HF : Hid (U = false) := by show _ = _; rw [HV.out, decide_eq_false e3]; simp
    go_wp2_with fail
    go_ret
    exact ⟨by rw [HF.out]; rfl, HB.out⟩
  have i3 : (tr != tr') = false := bne_eq_false_iff_eq.2 e3
  have HV1 : Hid (U = (x1 && sameA d thr thr')) := by
    show _ = _
    rw [HV.out, decide_eq_true E1.out, decide_eq_true E2.out, decide_eq_true e3]
    rfl
  clear e3
  go_wp2_with fail
  refine (HE.out W2 HB.out).mono ?_
  rintro _ w5 ⟨rfl, b5⟩
  have B5 : Hid (Below W2.heap.size W2 w5) := b5
  have D5 : Hid (Below w.heap.size w w5) := HB.out.trans (b5.mono HB.out.size)
  have f4 := (HN.out w5 b5).1.c4
  have g4 := (HN.out w5 b5).2.c4
  clear b5 c0 c1 c2 c3 d0 d1 d2 d3
  cases x1 with
  | false =>
    have HF : Hid (U = false) := HV1
    go_wp2_with fail
    go_ret
    exact ⟨by rw [HF.out]; rfl, D5.out⟩
  | true =>
    have HV2 : Hid (U = sameA d thr thr') := HV1
    by_cases hlen : M = M'
    case neg =>
      have i4 : ((M : Int) != (M' : Int)) = true := bne_iff_ne.2 (by omega)
      have HF : Hid (U = false) := by show _ = _; rw [HV2.out]; exact HLEN.out hlen
      go_wp2_with fail
      go_ret
      exact ⟨by rw [HF.out]; rfl, D5.out⟩
    subst hlen
    have i4 : ((M : Int) != (M : Int)) = false := bne_eq_false_iff_eq.2 rfl
    have HV0 : Hid (U = sameG (sameT d) (thr.drop 0) (thr'.drop 0)) := HV2
    clear HV1 HV2 HV
    go_wp2_with fail
    clear f4 g4
    go_loopw [5] (fun i wr => ∃ k : Nat, k ≤ M ∧ i = .int .i64 k ∧ Hid (U = sameG (sameT d) (thr.drop k) (thr'.drop k)) ∧ Hid (Below W2.heap.size W2 wr)) (fun i _ => M - (intOf i).toNat)
    case atStart => exact ⟨0, by omega, by go_num, HV0, B5⟩
    case round =>
      obtain ⟨k, hk, rfl, HW, HX⟩ := hrel
      have f4 := (HN.out wr HX.out).1.c4
      have g4 := (HN.out wr HX.out).2.c4
      have hB0 : Below w.heap.size w wr := HB.out.trans (HX.out.mono HB.out.size)
      by_cases hlt : k < M
      · have k1 : (k : Int) < (M : Int) := by omega
        have hlt1 : k < thr.length := by have := HM.out.1; omega
        have hlt2 : k < thr'.length := by have := HM.out.2; omega
        obtain ⟨p, B, p2, rfl, m1, m2, g0, l3, hX⟩ := HT.out w (Below.refl _ _) k hlt1
        obtain ⟨p', B', p3, rfl, m1', m2', g0', l3', hX'⟩ := HT'.out w (Below.refl _ _) k hlt2
        have g1 := (hB0.cell (p := p.add k) (by rw [ad_block]; omega)).trans g0
        have g1' := (hB0.cell (p := p'.add k) (by rw [ad_block]; omega)).trans g0'
        have hD := HD.out k hlt1 hlt2
        obtain ⟨l, hl⟩ : ∃ l, l = thr[k] := ⟨_, rfl⟩
        obtain ⟨l', hl'⟩ : ∃ l, l = thr'[k] := ⟨_, rfl⟩
        rw [← hl] at g0 g1 l3 hX hD
        rw [← hl'] at g0' g1' l3' hX' hD
        have HW2' : Hid (U = (sameT d l l' && sameG (sameT d) (thr.drop (k + 1)) (thr'.drop (k + 1)))) := HW.out.trans hD
        have HXX := Lib.hid (fun W' (h' : Below w.heap.size w W') => hX.below h' hhi)
        have HXX' := Lib.hid (fun W' (h' : Below w.heap.size w W') => hX'.below h' hhi')
        have HLN := Lib.hid (fun h => sameG_len (sameX d) l l' h)
        have HDX := Lib.hid (fun k h1 h2 => sameG_drop (sameX d) l l' k h1 h2)
        have HENDX : Hid (l.length = l'.length → sameG (sameX d) (l.drop l.length) (l'.drop l.length) = true) := fun he => by
          rw [List.drop_length, List.drop_eq_nil_of_le (by omega)]
          rfl
        obtain ⟨J, hJ⟩ : ∃ N, N = l.length := ⟨_, rfl⟩
        obtain ⟨J', hJ'⟩ : ∃ N, N = l'.length := ⟨_, rfl⟩
        have HJ := Lib.hid (And.intro hJ hJ')
        rw [← hJ] at g0 g1 l3 HLN HENDX
        rw [← hJ'] at g0' g1' l3' HLN HENDX
        have HG0 := Lib.hid (And.intro g0 (And.intro g0' (And.intro (show p.block < w.heap.size by omega) (show p'.block < w.heap.size by omega))))
        have HBB := Lib.hid hB0
        clear hl hl' hD hX hX' hJ hJ' m1 m2 m1' m2' g0 g0' HW hB0
        by_cases hjj : J = J'
        case neg =>
          have i5 : ((J : Int) != (J' : Int)) = true := bne_iff_ne.2 (by omega)
          have HF : Hid (U = false) := by show _ = _; rw [HW2'.out, show sameT d l l' = false from HLN.out hjj]; rfl
          go_wp2_with fail
          go_big_quiet (fail)
          go_wp2_with fail
          go_ret
          exact ⟨by rw [HF.out]; rfl, HBB.out.trans ((drewN_below2 wr _).mono HBB.out.size)⟩
        subst hjj
        have i5 : ((J : Int) != (J : Int)) = false := bne_eq_false_iff_eq.2 rfl
        have HIN : Hid (U = (sameG (sameX d) (l.drop 0) (l'.drop 0) && sameG (sameT d) (thr.drop (k + 1)) (thr'.drop (k + 1)))) := HW2'
        clear HW2'
        go_wp2_with fail
        go_big_quiet (fail)
        have HX1 : Hid (Below W2.heap.size W2 (wr.drewN nq)) := HX.out.trans ((drewN_below2 wr nq).mono HX.out.size)
        go_wp2_with fail
        go_loopw [6] (fun i wr => ∃ j : Nat, j ≤ J ∧ i = .int .i64 j ∧ Hid (U = (sameG (sameX d) (l.drop j) (l'.drop j) && sameG (sameT d) (thr.drop (k + 1)) (thr'.drop (k + 1)))) ∧ Hid (Below W2.heap.size W2 wr)) (fun i _ => J - (intOf i).toNat)
        case atStart => exact ⟨0, by omega, by go_num, HIN, HX1⟩
        case round =>
          obtain ⟨j, hj, rfl, HW, HX⟩ := hrel
          have f4 := (HN.out wr HX.out).1.c4
          have g4 := (HN.out wr HX.out).2.c4
          have hB0 : Below w.heap.size w wr := HB.out.trans (HX.out.mono HB.out.size)
          have g1 := (hB0.cell (p := p.add k) (by rw [ad_block]; exact HG0.out.2.2.1)).trans HG0.out.1
          have g1' := (hB0.cell (p := p'.add k) (by rw [ad_block]; exact HG0.out.2.2.2)).trans HG0.out.2.1
          by_cases hlj : j < J
          · have k2 : (j : Int) < (J : Int) := by omega
            have hj1 : j < l.length := by have := HJ.out.1; omega
            have hj2 : j < l'.length := by have := HJ.out.2; omega
            obtain ⟨q, C, q2, rfl, m1, m2, g2, l4, hS⟩ := HXX.out wr hB0 j hj1
            obtain ⟨q', C', q3, rfl, m1', m2', g2', l4', hS'⟩ := HXX'.out wr hB0 j hj2
            have hD := HDX.out j hj1 hj2
            obtain ⟨x, hx⟩ : ∃ x, x = l[j] := ⟨_, rfl⟩
            obtain ⟨y, hy⟩ : ∃ x, x = l'[j] := ⟨_, rfl⟩
            rw [← hx] at g2 l4 hS hD
            rw [← hy] at g2' l4' hS' hD
            have hC := rtsame_of d x y C C' q2 q3 lo hi lo' hi' wr.drew (hS.below ((Below.refl _ _).drew) (by have := hB0.size; omega)) (hS'.below ((Below.refl _ _).drew) (by have := hB0.size; omega)) (by have := hB0.size; simp; omega) (by have := hB0.size; simp; omega) l4 l4'
            obtain ⟨bv, hbv⟩ : ∃ b, b = sameX d x y := ⟨_, rfl⟩
            have HC : Hid (Calls Tryd.prog 33 #[.slice C x.length q2, .slice C' y.length q3] wr.drew fun r w' => r = .returned (.bool bv) ∧ Below wr.drew.heap.size wr.drew w') := by
              rw [hbv]
              exact hC
            rw [← hbv] at hD
            rw [hD] at HW
            obtain ⟨a1, ha1⟩ : ∃ a, a = x.length := ⟨_, rfl⟩
            obtain ⟨a2, ha2⟩ : ∃ a, a = y.length := ⟨_, rfl⟩
            rw [← ha1] at HC g2
            rw [← ha2] at HC g2'
            clear hx hy hD hS hS' hbv ha1 ha2 m1 m2 m1' m2' l4 l4' hB0 hC
            go_upto_region 11 with fail
            go_still_tail 16, (by kernel_rfl)
            change wpList _ _ _ _ _ wr.drew
            go_wp2_with fail
            refine HC.out.mono ?_
            rintro _ w6 ⟨rfl, b6⟩
            have B6 : Hid (Below W2.heap.size W2 w6) := HX.out.trans ((((Below.refl wr.heap.size wr).drew).trans (b6.mono (Nat.le_refl _))).mono HX.out.size)
            clear b6 f4 g4 g1 g1' g2 g2'
            cases bv with
            | false =>
              have HF : Hid (U = false) := HW
              go_wp2_with fail
              go_ret
              exact ⟨by rw [HF.out]; rfl, HB.out.trans (B6.out.mono HB.out.size)⟩
            | true =>
              have HF : Hid (U = (sameG (sameX d) (l.drop (j + 1)) (l'.drop (j + 1)) && sameG (sameT d) (thr.drop (k + 1)) (thr'.drop (k + 1)))) := HW
              go_wp2_with fail
              go_roundw
              case rel => exact ⟨j + 1, by omega, by go_num, HF, B6⟩
              case measure => simp [intOf]; omega
          · have HF : Hid (U = sameG (sameT d) (thr.drop (k + 1)) (thr'.drop (k + 1))) := by
              show _ = _
              rw [HW.out, show j = J by omega, HENDX.out trivial]
              rfl
            clear HW hB0
            go_wp2_with fail
            go_roundw
            case rel => exact ⟨k + 1, by omega, by go_num, HF, HX⟩
            case measure => simp [intOf]; omega
      · have HF : Hid (U = true) := by show _ = _; rw [HW.out, show k = M by omega]; exact HEND.out trivial
        have HBB := Lib.hid hB0
        clear hB0
        go_wp2_with fail
        go_ret
        exact ⟨by rw [HF.out]; rfl, HBB.out⟩
end Go.Proofs.YtpgkhodofhnpnaaDoor
