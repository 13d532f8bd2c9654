/-
  CONTRACTS OF PACKAGE code's Cost and cost: a transaction's cost, cut; a statement's; the memory that was there stays as it was. Conditions: as they stand.
-/
import Derived.Test.YtnkdaehmdcpafaaDoorCm
import Derived.Test.YtnkdaehmdcpafaaDoorEb
import Derived.LoopTactic
import Derived.Handy
import Derived.WalkLawsBesides
import Derived.WalkSpells
import Derived.Deep.RegionHeld3
import Derived.Deep.DeepCutAuto
import Derived.Deep.CutBlock
namespace Go.Proofs.YtnkdaehmdcpafaaDoor
open Go.RowKit
set_option linter.unusedVariables false
def CostS (d : Nat) : Prop := ∀ (r : Raw) (s : St) (lo hi : Nat) (w : World), SAt w lo hi d r s → hi ≤ w.heap.size →
    Calls Tryd.prog 47 #[r.v] w fun e w' => e = .returned (.int .i64 (costF d s : Nat)) ∧ Below w.heap.size w w'
set_option maxRecDepth 100000 in
theorem cost_block (d : Nat) (ih : CostS d) (A : Option Addr) (c : Nat) (tx : List St) (lo hi : Nat) (w : World) (hk : SKids w lo hi d A tx) (hhi : hi ≤ w.heap.size) (hl : tx.length ≤ 9223372036854775807) :
    Calls Tryd.prog 26 #[.slice A tx.length c] w fun e w' => e = .returned (.int .i64 (costL (costF d) tx 0 : Nat)) ∧ Below w.heap.size w w' := by
  have HK := Lib.hid hk
  have IH := Lib.hid ih
  clear hk ih
  go_enter Tryd.func26, Tryd.ntmps26
  go_wp2_with fail
  go_loopw [3, 8] (fun a i wr => ∃ k u : Nat, k ≤ tx.length ∧ i = .int .i64 k ∧ a = .int .i64 u ∧ u ≤ 2000 ∧ Hid (costL (costF d) tx 0 = costL (costF d) (tx.drop k) u) ∧ Below w.heap.size w wr) (fun _ i _ => tx.length - (intOf i).toNat)
  case atStart => exact ⟨0, 0, by omega, rfl, rfl, by omega, rfl, Below.refl _ _⟩
  case round =>
    obtain ⟨k, u, hk, rfl, rfl, hu, hv, hb⟩ := hrel
    by_cases hlt : k < tx.length
    · obtain ⟨p, q, rfl, m1, m2, ht, hs⟩ := HK.out.below hb (by omega) k hlt
      have g0 := ht.c0
      have g1 := ht.c1
      have g2 := ht.c2
      have g3 := ht.c3
      have g4 := ht.c4
      have g5 := ht.c5
      have g6 := ht.c6
      have g7 := ht.c7
      have g8 := ht.c8
      have g9 := ht.c9
      have bx := ten_below wr q
      have HI := Lib.hid (IH.out q tx[k] lo hi _ (hs.below bx (by have := hb.size; omega)) (by have := hb.size; have := bx.size; omega))
      have HX := Lib.hid bx
      have hd := hv.out
      rw [costL_drop _ _ _ _ hlt] at hd
      have hj1 := costF_le d tx[k]
      obtain ⟨j, hj⟩ : ∃ j, j = costF d tx[k] := ⟨_, rfl⟩
      rw [← hj] at hd hj1 HI
      obtain ⟨qk, qt, qao, qan, qaA, qal, qac, qbo, qbn, qbA, qbl, qbc, qyA, qyl, qyc, qeA, qel, qec⟩ := q
      simp only [Raw.v] at HI
      clear hj ht hs bx hv
      by_cases hbig : 2000 < u + j
      · rw [if_pos hbig] at hd
        have HD := Lib.hid hd
        clear hd
        go_wp2_with fail
        refine HI.out.mono ?_
        rintro r w5 ⟨rfl, b5⟩
        clear g0 g1 g2 g3 g4 g5 g6 g7 g8 g9
        go_wp2_with fail
        go_ret
        exact ⟨by rw [HD.out]; rfl, hb.trans ((HX.out.trans (b5.mono HX.out.size)).mono hb.size)⟩
      · rw [if_neg hbig] at hd
        have HD := Lib.hid hd
        clear hd
        go_wp2_with fail
        refine HI.out.mono ?_
        rintro r w5 ⟨rfl, b5⟩
        clear g0 g1 g2 g3 g4 g5 g6 g7 g8 g9
        go_wp2_with fail
        go_roundw
        case rel => exact ⟨k + 1, u + j, by omega, by go_num, by go_num, by omega, HD.out, hb.trans ((HX.out.trans (b5.mono HX.out.size)).mono hb.size)⟩
        case measure => simp [intOf]; omega
    · have HD : Hid (costL (costF d) tx 0 = u) := by show _ = _; rw [hv.out, List.drop_eq_nil_of_le (by omega)]; rfl
      clear hv
      go_wp2_with fail
      go_ret
      exact ⟨by rw [HD.out]; rfl, hb⟩

set_option maxRecDepth 100000 in
theorem cost_any (d : Nat) : CostS d := by
  induction d with
  | zero => intro r s lo hi w h; exact h.elim
  | succ d ih =>
    intro r s lo hi w h hhi
    obtain ⟨k, t, a, b, y, e⟩ := s
    obtain ⟨⟨e1, e2, e3, e4⟩, ⟨q1, q2, q3, q4, q5⟩, ha, hb, hy, he⟩ := h.open_
    have b0 := ten_below w r
    have tn := Ten.new w r
    have HY := Lib.hid (fun W' (h' : Below w.heap.size w W') (c : Nat) => cost_block d ih r.yA c y lo hi W' (hy.below h' hhi) (by have := h'.size; omega) q4)
    have HE := Lib.hid (fun W' (h' : Below w.heap.size w W') (c : Nat) => cost_block d ih r.eA c e lo hi W' (he.below h' hhi) (by have := h'.size; omega) q5)
    have hy0 := costL_le (costF d) y 0 (by omega)
    have he0 := costL_le (costF d) e 0 (by omega)
    have z0 : w.heap.size < (w.alloc (.cells #[.int .u8 r.k, .int .i64 r.t, .int .u8 r.ao, .int .i64 r.an, .slice r.aA r.al r.ac, .int .u8 r.bo, .int .i64 r.bn, .slice r.bA r.bl r.bc, .slice r.yA r.yl r.yc, .slice r.eA r.el r.ec] 39)).heap.size := by simp
    obtain ⟨rk, rt, rao, ran, raA, ral, rac, rbo, rbn, rbA, rbl, rbc, ryA, ryl, ryc, reA, rel, r9c⟩ := r
    dsimp only [Raw.v] at *
    subst e1 e2 e3 e4
    clear ha hb hy he h ih hhi
    have f0 := tn.c0
    dsimp only at f0
    by_cases h4 : rk = 4
    · have HV : Hid (costF (d + 1) (.node rk rt a b y e) = 1 + max (costL (costF d) y 0) (costL (costF d) e 0)) := by show costF _ _ = _; rw [costF, if_pos h4]
      obtain ⟨u, hu⟩ : ∃ u, u = costL (costF d) y 0 := ⟨_, rfl⟩
      obtain ⟨v, hv⟩ : ∃ v, v = costL (costF d) e 0 := ⟨_, rfl⟩
      rw [← hu] at HY HV hy0
      rw [← hv] at HE HV he0
      clear hu hv
      have t4 : ((rk : Int) == 4) = true := by simp; omega
      clear h4
      go_enter Tryd.func47, Tryd.ntmps47
      go_upto_region 3 with fail
      obtain ⟨W, hW⟩ : ∃ W, W = w.alloc (.cells #[.int .u8 rk, .int .i64 rt, .int .u8 rao, .int .i64 ran, .slice raA ral rac, .int .u8 rbo, .int .i64 rbn, .slice rbA rbl rbc, .slice ryA y.length ryc, .slice reA e.length r9c] 39) := ⟨_, rfl⟩
      rw [← hW] at b0 z0 tn ⊢
      clear hW f0
      have f8 := tn.c8
      have f9 := tn.c9
      dsimp only at f8 f9
      have hkeep : Hid (∀ w' : World, Below W.heap.size W w' → w'.cell? ⟨w.heap.size, 8, none⟩ = some (.slice ryA y.length ryc) ∧ w'.cell? ⟨w.heap.size, 9, none⟩ = some (.slice reA e.length r9c) ∧ Below W.heap.size W w') :=
        fun w' h' => ⟨(h'.cell (p := ⟨w.heap.size, _, none⟩) z0).trans f8, (h'.cell (p := ⟨w.heap.size, _, none⟩) z0).trans f9, h'⟩
      have HY' : Hid (∀ W', Below W.heap.size W W' → ∀ c, Calls Tryd.prog 26 #[.slice ryA y.length c] W' fun z w' => z = .returned (.int .i64 (u : Nat)) ∧ Below W.heap.size W w') := fun W' h' c =>
        (HY.out W' (b0.trans (h'.mono b0.size)) c).mono fun z w' hz => ⟨hz.1, h'.trans (hz.2.mono h'.size)⟩
      have HE' : Hid (∀ W', Below W.heap.size W W' → ∀ c, Calls Tryd.prog 26 #[.slice reA e.length c] W' fun z w' => z = .returned (.int .i64 (v : Nat)) ∧ Below W.heap.size W w') := fun W' h' c =>
        (HE.out W' (b0.trans (h'.mono b0.size)) c).mono fun z w' hz => ⟨hz.1, h'.trans (hz.2.mono h'.size)⟩
      have HB := Lib.hid b0
      clear tn b0 z0 HY HE
      go_region_held3 (fun w' => w'.cell? ⟨w.heap.size, 8, none⟩ = some (.slice ryA y.length ryc) ∧ w'.cell? ⟨w.heap.size, 9, none⟩ = some (.slice reA e.length r9c) ∧ Below W.heap.size W w')
        (first | exact hkeep.out _ b6 | exact hkeep.out _ b5 | exact ⟨f8, f9, Below.refl _ _⟩ | exact ⟨f8, f9, (Below.refl _ _).drew⟩ | fail)
        (first
          | (go_at_call 26; refine (HE'.out w5 b5 _).mono ?_; rintro z w6 ⟨rfl, b6⟩)
          | (go_at_call 26; refine (HY'.out W.drew ((Below.refl _ _).drew) _).mono ?_; rintro z w5 ⟨rfl, b5⟩)
          | fail)
      go_wp2_with fail
      all_goals
        go_ret
        refine ⟨ret_i ?_, HB.out.trans (b6.mono HB.out.size)⟩
        rw [HV.out, IntWalk.i64_in _ (by omega)]
        first | done | omega
    by_cases h5 : rk = 5
    · have HV : Hid (costF (d + 1) (.node rk rt a b y e) = 1 + 8 * costL (costF d) y 0) := by show costF _ _ = _; rw [costF, if_neg h4, if_pos h5]
      obtain ⟨u, hu⟩ : ∃ u, u = costL (costF d) y 0 := ⟨_, rfl⟩
      rw [← hu] at HY HV hy0
      clear hu
      have t4 : ((rk : Int) == 4) = false := by simp; omega
      have t5 : ((rk : Int) == 5) = true := by simp; omega
      have HZ := Lib.hid (HY.out _ b0 ryc)
      have HB := Lib.hid b0
      clear h4 h5 HY HE tn b0 z0
      go_enter Tryd.func47, Tryd.ntmps47
      go_wp2_with fail
      refine HZ.out.mono ?_
      rintro z w6 ⟨rfl, b6⟩
      go_wp2_with fail
      go_ret
      refine ⟨ret_i ?_, HB.out.trans (b6.mono HB.out.size)⟩
      rw [HV.out]
      first | omega | (rw [IntWalk.i64_in _ (by omega)]; first | done | omega) | (rw [IntWalk.i64_in _ (by omega), IntWalk.i64_in _ (by omega)]; first | done | omega)
    by_cases h7 : rk = 7
    · have HV : Hid (costF (d + 1) (.node rk rt a b y e) = 1 + costL (costF d) y 0 + costL (costF d) e 0) := by show costF _ _ = _; rw [costF, if_neg h4, if_neg h5, if_pos h7]
      obtain ⟨u, hu⟩ : ∃ u, u = costL (costF d) y 0 := ⟨_, rfl⟩
      obtain ⟨v, hv⟩ : ∃ v, v = costL (costF d) e 0 := ⟨_, rfl⟩
      rw [← hu] at HY HV hy0
      rw [← hv] at HE HV he0
      clear hu hv
      have t4 : ((rk : Int) == 4) = false := by simp; omega
      have t5 : ((rk : Int) == 5) = false := by simp; omega
      have t7 : ((rk : Int) == 7) = true := by simp; omega
      clear h4 h5 h7
      go_enter Tryd.func47, Tryd.ntmps47
      go_upto_region 7 with fail
      obtain ⟨W, hW⟩ : ∃ W, W = w.alloc (.cells #[.int .u8 rk, .int .i64 rt, .int .u8 rao, .int .i64 ran, .slice raA ral rac, .int .u8 rbo, .int .i64 rbn, .slice rbA rbl rbc, .slice ryA y.length ryc, .slice reA e.length r9c] 39) := ⟨_, rfl⟩
      rw [← hW] at b0 z0 tn ⊢
      clear hW f0
      have f8 := tn.c8
      have f9 := tn.c9
      dsimp only at f8 f9
      have hkeep : Hid (∀ w' : World, Below W.heap.size W w' → w'.cell? ⟨w.heap.size, 8, none⟩ = some (.slice ryA y.length ryc) ∧ w'.cell? ⟨w.heap.size, 9, none⟩ = some (.slice reA e.length r9c) ∧ Below W.heap.size W w') :=
        fun w' h' => ⟨(h'.cell (p := ⟨w.heap.size, _, none⟩) z0).trans f8, (h'.cell (p := ⟨w.heap.size, _, none⟩) z0).trans f9, h'⟩
      have HY' : Hid (∀ W', Below W.heap.size W W' → ∀ c, Calls Tryd.prog 26 #[.slice ryA y.length c] W' fun z w' => z = .returned (.int .i64 (u : Nat)) ∧ Below W.heap.size W w') := fun W' h' c =>
        (HY.out W' (b0.trans (h'.mono b0.size)) c).mono fun z w' hz => ⟨hz.1, h'.trans (hz.2.mono h'.size)⟩
      have HE' : Hid (∀ W', Below W.heap.size W W' → ∀ c, Calls Tryd.prog 26 #[.slice reA e.length c] W' fun z w' => z = .returned (.int .i64 (v : Nat)) ∧ Below W.heap.size W w') := fun W' h' c =>
        (HE.out W' (b0.trans (h'.mono b0.size)) c).mono fun z w' hz => ⟨hz.1, h'.trans (hz.2.mono h'.size)⟩
      have HB := Lib.hid b0
      clear tn b0 z0 HY HE
      go_region_held3 (fun w' => w'.cell? ⟨w.heap.size, 8, none⟩ = some (.slice ryA y.length ryc) ∧ w'.cell? ⟨w.heap.size, 9, none⟩ = some (.slice reA e.length r9c) ∧ Below W.heap.size W w')
        (first | exact hkeep.out _ b6 | exact hkeep.out _ b5 | exact ⟨f8, f9, Below.refl _ _⟩ | exact ⟨f8, f9, (Below.refl _ _).drew⟩ | fail)
        (first
          | (go_at_call 26; refine (HE'.out w5 b5 _).mono ?_; rintro z w6 ⟨rfl, b6⟩)
          | (go_at_call 26; refine (HY'.out W.drew ((Below.refl _ _).drew) _).mono ?_; rintro z w5 ⟨rfl, b5⟩)
          | fail)
      go_wp2_with fail
      go_ret
      refine ⟨ret_i ?_, HB.out.trans (b6.mono HB.out.size)⟩
      rw [HV.out]
      rw [IntWalk.i64_in (1 + (u : Int)) (by omega), IntWalk.i64_in _ (by omega)]
      first | done | omega
    have HV : Hid (costF (d + 1) (.node rk rt a b y e) = 1) := by show costF _ _ = _; rw [costF, if_neg h4, if_neg h5, if_neg h7]
    have t4 : ((rk : Int) == 4) = false := by simp; omega
    have t5 : ((rk : Int) == 5) = false := by simp; omega
    have t7 : ((rk : Int) == 7) = false := by simp; omega
    have HB := Lib.hid b0
    clear h4 h5 h7 HY HE tn b0 z0
    go_enter Tryd.func47, Tryd.ntmps47
    go_wp2_with fail
    go_ret
    exact ⟨by rw [HV.out]; rfl, HB.out⟩
theorem cost_of (d : Nat) (A : Option Addr) (c : Nat) (tx : List St) (lo hi : Nat) (w : World) (hk : SKids w lo hi d A tx) (hhi : hi ≤ w.heap.size) (hl : tx.length ≤ 9223372036854775807) :
    Calls Tryd.prog 26 #[.slice A tx.length c] w fun e w' => e = .returned (.int .i64 (costL (costF d) tx 0 : Nat)) ∧ Below w.heap.size w w' := cost_block d (cost_any d) A c tx lo hi w hk hhi hl
end Go.Proofs.YtnkdaehmdcpafaaDoor
