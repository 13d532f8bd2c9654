/-
  CONTRACT OF seesawref05's Cost (the document's own answer of layer 5): a transaction's cost, cut; the memory that was there stays as it was. Conditions: as they stand.
-/
import Derived.Test.YtnkdaehmdcpafaaDoorCm
import Derived.Test.YtnkdaehmdcpafaaDoorZa
import Derived.LoopTactic
import Derived.Handy
import Derived.WalkLawsBesides
import Derived.WalkSpells
import Derived.Deep.RegionHeld3
import Derived.Deep.DeepCutAuto
import Derived.Deep.CutBlock
namespace Go.Proofs.YtnkdaehmdcpafaaDoor
open Go.RowKit
set_option linter.unusedVariables false
/-- How far the sum has come: it is still the cost's, or it is too much. -/
def CostAt (f : St → Nat) (tx : List St) (k u : Nat) : Prop := (u ≤ 2000 ∧ costL f tx 0 = costL f (tx.drop k) u) ∨ (2000 < u ∧ costL f tx 0 = 2001)
theorem CostAt.step {f : St → Nat} {tx : List St} {k u : Nat} (h : CostAt f tx k u) (hu : u ≤ 2000) (hk : k < tx.length) : CostAt f tx (k + 1) (u + f tx[k]) := by
  rcases h with ⟨_, h⟩ | ⟨h, _⟩
  · rw [costL_drop _ _ _ _ hk] at h
    by_cases hb : 2000 < u + f tx[k]
    · rw [if_pos hb] at h
      exact .inr ⟨hb, h⟩
    · rw [if_neg hb] at h
      exact .inl ⟨by omega, h⟩
  · omega
theorem CostAt.done {f : St → Nat} {tx : List St} {k u : Nat} (h : CostAt f tx k u) (hk : tx.length ≤ k ∨ 2000 < u) : costL f tx 0 = if 2000 < u then 2001 else u := by
  rcases h with ⟨hu, h⟩ | ⟨hu, h⟩
  · rw [if_neg (by omega), h, List.drop_eq_nil_of_le (by omega)]
    rfl
  · rw [if_pos hu, h]
set_option maxRecDepth 100000 in
set_option maxHeartbeats 4000000 in
theorem rcost_of (d : Nat) : ∀ (A : Option Addr) (c : Nat) (tx : List St) (lo hi : Nat) (w : World), SKids w lo hi d A tx → hi ≤ w.heap.size → tx.length ≤ 9223372036854775807 →
    Calls Tryd.prog 44 #[.slice A tx.length c] w fun z w' => z = .returned (.int .i64 (costL (costF d) tx 0 : Nat)) ∧ Below w.heap.size w w' := by
  induction d using Nat.strongRecOn with
  | _ d ih =>
  intro A c tx lo hi w hk hhi hl
  have HK := Lib.hid hk
  have IH := Lib.hid ih
  clear hk ih
  go_enter Tryd.func44, Tryd.ntmps44
  go_wp2_with fail
  go_loopw [3, 4] (fun a i wr => ∃ k u : Nat, k ≤ tx.length ∧ i = .int .i64 k ∧ a = .int .i64 u ∧ u ≤ 30000 ∧ Hid (CostAt (costF d) tx k u) ∧ Below w.heap.size w wr) (fun _ i _ => tx.length - (intOf i).toNat)
  case atStart => exact ⟨0, 0, by omega, rfl, rfl, by omega, .inl ⟨by omega, rfl⟩, Below.refl _ _⟩
  case round =>
    obtain ⟨k, u, hk, rfl, rfl, hu, hv, hb⟩ := hrel
    by_cases hlt : k < tx.length
    · have i1 : (k : Int) < (tx.length : Int) := by omega
      by_cases hu2 : u ≤ 2000
      · have i2 : (u : Int) ≤ 2000 := by omega
        have hv2 := hv.out.step hu2 hlt
        obtain ⟨p, r, rfl, m1, m2, ht, hs⟩ := HK.out.below hb (by omega) k hlt
        obtain ⟨q, hq⟩ := hs.pos
        obtain ⟨s, hsx⟩ : ∃ s, s = tx[k] := ⟨_, rfl⟩
        rw [← hsx] at hv2 hs
        obtain ⟨kk, t, a, b, y, e⟩ := s
        rw [hq] at hs
        obtain ⟨⟨e1, e2, e3, e4⟩, ⟨q1, q2, q3, q4, q5⟩, _, _, hy, he⟩ := hs.open_
        have hzr := hb.size
        have HY := Lib.hid (fun W' (h' : Below wr.heap.size wr W') (c : Nat) => IH.out q (by omega) r.yA c y lo hi W' (hy.below h' (by omega)) (by have := h'.size; omega) q4)
        have HE := Lib.hid (fun W' (h' : Below wr.heap.size wr W') (c : Nat) => IH.out q (by omega) r.eA c e lo hi W' (he.below h' (by omega)) (by have := h'.size; omega) q5)
        have hy0 := costL_le (costF q) y 0 (by omega)
        have he0 := costL_le (costF q) e 0 (by omega)
        have tn := Ten.new wr r
        have b0 := ten_below wr r
        have z0 : wr.heap.size < (wr.alloc (.cells #[.int .u8 r.k, .int .i64 r.t, .int .u8 r.ao, .int .i64 r.an, .slice r.aA r.al r.ac, .int .u8 r.bo, .int .i64 r.bn, .slice r.bA r.bl r.bc, .slice r.yA r.yl r.yc, .slice r.eA r.el r.ec] 39)).heap.size := by simp
        have g0 := ht.c0
        have g1 := ht.c1
        have g2 := ht.c2
        have g3 := ht.c3
        have g4 := ht.c4
        have g5 := ht.c5
        have g6 := ht.c6
        have g7 := ht.c7
        have g8 := ht.c8
        have g9 := ht.c9
        obtain ⟨rk, rt, rao, ran, raA, ral, rac, rbo, rbn, rbA, rbl, rbc, ryA, ryl, ryc, reA, rel, r9c⟩ := r
        dsimp only [Raw.v] at *
        subst e1 e2 e3 e4
        have HV := Lib.hid hv2
        have HQ := Lib.hid hq
        clear ht hs hsx hv hv2 hy he m1 m2 hq
        have hB := Lib.hid hb
        have HB0 := Lib.hid b0
        clear hb hzr hk
        by_cases h4 : rk = 4
        · have HC : Hid (costF d (.node rk rt a b y e) = 1 + max (costL (costF q) y 0) (costL (costF q) e 0)) := by show costF _ _ = _; rw [HQ.out, costF, if_pos h4]
          obtain ⟨x, hx⟩ : ∃ x, x = costL (costF q) y 0 := ⟨_, rfl⟩
          obtain ⟨z, hz⟩ : ∃ z, z = costL (costF q) e 0 := ⟨_, rfl⟩
          rw [← hx] at HY HC hy0
          rw [← hz] at HE HC he0
          clear hx hz
          have t4 : ((rk : Int) == 4) = true := by simp; omega
          have t5 : ((rk : Int) == 5) = false := by simp; omega
          have t7 : ((rk : Int) == 7) = false := by simp; omega
          clear h4
          go_upto_region 8 with fail
          obtain ⟨W, hW⟩ : ∃ W, W = wr.alloc (.cells #[.int .u8 rk, .int .i64 rt, .int .u8 rao, .int .i64 ran, .slice raA ral rac, .int .u8 rbo, .int .i64 rbn, .slice rbA rbl rbc, .slice ryA y.length ryc, .slice reA e.length r9c] 39) := ⟨_, rfl⟩
          rw [← hW] at tn z0 HB0 ⊢
          clear hW g0 g1 g2 g3 g4 g5 g6 g7 g8 g9
          have f8 := tn.c8
          have f9 := tn.c9
          have f0 := tn.c0
          dsimp only at f0 f8 f9
          rw [Nat.zero_add] at f8 f9
          have hkeep : Hid (∀ w' : World, Below W.heap.size W w' → w'.cell? ⟨wr.heap.size, 0, none⟩ = some (.int .u8 rk) ∧ w'.cell? ⟨wr.heap.size, 8, none⟩ = some (.slice ryA y.length ryc) ∧ w'.cell? ⟨wr.heap.size, 9, none⟩ = some (.slice reA e.length r9c) ∧ Below W.heap.size W w') :=
            fun w' h' => ⟨(h'.cell (p := ⟨wr.heap.size, _, none⟩) z0).trans f0, (h'.cell (p := ⟨wr.heap.size, _, none⟩) z0).trans f8, (h'.cell (p := ⟨wr.heap.size, _, none⟩) z0).trans f9, h'⟩
          have HY' : Hid (∀ W', Below W.heap.size W W' → ∀ c, Calls Tryd.prog 44 #[.slice ryA y.length c] W' fun z w' => z = .returned (.int .i64 (x : Nat)) ∧ Below W.heap.size W w') := fun W' h' c =>
            (HY.out W' (HB0.out.trans (h'.mono HB0.out.size)) c).mono fun z w' hz => ⟨hz.1, h'.trans (hz.2.mono h'.size)⟩
          have HE' : Hid (∀ W', Below W.heap.size W W' → ∀ c, Calls Tryd.prog 44 #[.slice reA e.length c] W' fun z' w' => z' = .returned (.int .i64 (z : Nat)) ∧ Below W.heap.size W w') := fun W' h' c =>
            (HE.out W' (HB0.out.trans (h'.mono HB0.out.size)) c).mono fun z w' hz => ⟨hz.1, h'.trans (hz.2.mono h'.size)⟩
          clear tn z0 HY HE
          go_region_held3 (fun w' => w'.cell? ⟨wr.heap.size, 0, none⟩ = some (.int .u8 rk) ∧ w'.cell? ⟨wr.heap.size, 8, none⟩ = some (.slice ryA y.length ryc) ∧ w'.cell? ⟨wr.heap.size, 9, none⟩ = some (.slice reA e.length r9c) ∧ Below W.heap.size W w')
            (first | exact hkeep.out _ b6 | exact hkeep.out _ b5 | exact ⟨f0, f8, f9, Below.refl _ _⟩ | exact ⟨f0, f8, f9, (Below.refl _ _).drew⟩ | fail)
            (first
              | (go_at_call 44; refine (HE'.out w5 b5 _).mono ?_; rintro _ w6 ⟨rfl, b6⟩)
              | (go_at_call 44; refine (HY'.out W.drew ((Below.refl _ _).drew) _).mono ?_; rintro _ w5 ⟨rfl, b5⟩)
              | fail)
          obtain ⟨h0, -, -, b06⟩ := hkeep.out w6 b6
          have HBN := Lib.hid (hB.out.trans ((HB0.out.trans (b6.mono HB0.out.size)).mono hB.out.size))
          clear hkeep f0 f8 f9 HY' HE' b06 b5 b6
          by_cases hxz : x < z
          · have i4 : (x : Int) < (z : Int) := by omega
            rw [Nat.max_eq_right (by omega)] at HC
            go_wp2_with fail
            go_roundw
            case rel => exact ⟨k + 1, u + (1 + z), by omega, by go_num, by go_num, by omega, by have h := HV.out; rw [HC.out] at h; exact h, HBN.out⟩
            case measure => simp [intOf]; omega
          · have i4 : ¬ ((x : Int) < (z : Int)) := by omega
            rw [Nat.max_eq_left (by omega)] at HC
            go_wp2_with fail
            go_roundw
            case rel => exact ⟨k + 1, u + (1 + x), by omega, by go_num, by go_num, by omega, by have h := HV.out; rw [HC.out] at h; exact h, HBN.out⟩
            case measure => simp [intOf]; omega
        by_cases h5 : rk = 5
        · have HC : Hid (costF d (.node rk rt a b y e) = 1 + 8 * costL (costF q) y 0) := by show costF _ _ = _; rw [HQ.out, costF, if_neg h4, if_pos h5]
          obtain ⟨x, hx⟩ : ∃ x, x = costL (costF q) y 0 := ⟨_, rfl⟩
          rw [← hx] at HY HC hy0
          clear hx
          have t4 : ((rk : Int) == 4) = false := by simp; omega
          have t5 : ((rk : Int) == 5) = true := by simp; omega
          have t7 : ((rk : Int) == 7) = false := by simp; omega
          have HZ := Lib.hid (HY.out _ b0 ryc)
          have f0 := fun (w' : World) (h' : Below (wr.alloc (.cells #[.int .u8 rk, .int .i64 rt, .int .u8 rao, .int .i64 ran, .slice raA ral rac, .int .u8 rbo, .int .i64 rbn, .slice rbA rbl rbc, .slice ryA y.length ryc, .slice reA e.length r9c] 39)).heap.size (wr.alloc (.cells #[.int .u8 rk, .int .i64 rt, .int .u8 rao, .int .i64 ran, .slice raA ral rac, .int .u8 rbo, .int .i64 rbn, .slice rbA rbl rbc, .slice ryA y.length ryc, .slice reA e.length r9c] 39)) w') => (h'.cell (p := ⟨wr.heap.size, 0, none⟩) z0).trans tn.c0
          have F0 := Lib.hid f0
          clear h4 h5 HY HE tn z0 f0 b0
          go_wp2_with fail
          refine HZ.out.mono ?_
          rintro _ w6 ⟨rfl, b6⟩
          have h0 : w6.cell? ⟨wr.heap.size, 0, none⟩ = some (.int .u8 rk) := F0.out w6 b6
          have HBN := Lib.hid (hB.out.trans ((HB0.out.trans (b6.mono HB0.out.size)).mono hB.out.size))
          clear F0 b6 HZ g0 g1 g2 g3 g4 g5 g6 g7 g8 g9
          go_wp2_with fail
          go_roundw
          case rel => exact ⟨k + 1, u + (1 + 8 * x), by omega, by go_num, by go_num, by omega, by have h := HV.out; rw [HC.out] at h; exact h, HBN.out⟩
          case measure => simp [intOf]; omega
        by_cases h7 : rk = 7
        · have HC : Hid (costF d (.node rk rt a b y e) = 1 + costL (costF q) y 0 + costL (costF q) e 0) := by show costF _ _ = _; rw [HQ.out, costF, if_neg h4, if_neg h5, if_pos h7]
          obtain ⟨x, hx⟩ : ∃ x, x = costL (costF q) y 0 := ⟨_, rfl⟩
          obtain ⟨z, hz⟩ : ∃ z, z = costL (costF q) e 0 := ⟨_, rfl⟩
          rw [← hx] at HY HC hy0
          rw [← hz] at HE HC he0
          clear hx hz
          have t4 : ((rk : Int) == 4) = false := by simp; omega
          have t5 : ((rk : Int) == 5) = false := by simp; omega
          have t7 : ((rk : Int) == 7) = true := by simp; omega
          clear h4 h5 h7
          go_upto_region 15 with fail
          obtain ⟨W, hW⟩ : ∃ W, W = wr.alloc (.cells #[.int .u8 rk, .int .i64 rt, .int .u8 rao, .int .i64 ran, .slice raA ral rac, .int .u8 rbo, .int .i64 rbn, .slice rbA rbl rbc, .slice ryA y.length ryc, .slice reA e.length r9c] 39) := ⟨_, rfl⟩
          rw [← hW] at tn z0 HB0 ⊢
          clear hW g0 g1 g2 g3 g4 g5 g6 g7 g8 g9
          have f8 := tn.c8
          have f9 := tn.c9
          have f0 := tn.c0
          dsimp only at f0 f8 f9
          rw [Nat.zero_add] at f8 f9
          have hkeep : Hid (∀ w' : World, Below W.heap.size W w' → w'.cell? ⟨wr.heap.size, 0, none⟩ = some (.int .u8 rk) ∧ w'.cell? ⟨wr.heap.size, 8, none⟩ = some (.slice ryA y.length ryc) ∧ w'.cell? ⟨wr.heap.size, 9, none⟩ = some (.slice reA e.length r9c) ∧ Below W.heap.size W w') :=
            fun w' h' => ⟨(h'.cell (p := ⟨wr.heap.size, _, none⟩) z0).trans f0, (h'.cell (p := ⟨wr.heap.size, _, none⟩) z0).trans f8, (h'.cell (p := ⟨wr.heap.size, _, none⟩) z0).trans f9, h'⟩
          have HY' : Hid (∀ W', Below W.heap.size W W' → ∀ c, Calls Tryd.prog 44 #[.slice ryA y.length c] W' fun z w' => z = .returned (.int .i64 (x : Nat)) ∧ Below W.heap.size W w') := fun W' h' c =>
            (HY.out W' (HB0.out.trans (h'.mono HB0.out.size)) c).mono fun z w' hz => ⟨hz.1, h'.trans (hz.2.mono h'.size)⟩
          have HE' : Hid (∀ W', Below W.heap.size W W' → ∀ c, Calls Tryd.prog 44 #[.slice reA e.length c] W' fun z' w' => z' = .returned (.int .i64 (z : Nat)) ∧ Below W.heap.size W w') := fun W' h' c =>
            (HE.out W' (HB0.out.trans (h'.mono HB0.out.size)) c).mono fun z w' hz => ⟨hz.1, h'.trans (hz.2.mono h'.size)⟩
          clear tn z0 HY HE
          go_region_held3 (fun w' => w'.cell? ⟨wr.heap.size, 0, none⟩ = some (.int .u8 rk) ∧ w'.cell? ⟨wr.heap.size, 8, none⟩ = some (.slice ryA y.length ryc) ∧ w'.cell? ⟨wr.heap.size, 9, none⟩ = some (.slice reA e.length r9c) ∧ Below W.heap.size W w')
            (first | exact hkeep.out _ b6 | exact hkeep.out _ b5 | exact ⟨f0, f8, f9, Below.refl _ _⟩ | exact ⟨f0, f8, f9, (Below.refl _ _).drew⟩ | fail)
            (first
              | (go_at_call 44; refine (HE'.out w5 b5 _).mono ?_; rintro _ w6 ⟨rfl, b6⟩)
              | (go_at_call 44; refine (HY'.out W.drew ((Below.refl _ _).drew) _).mono ?_; rintro _ w5 ⟨rfl, b5⟩)
              | fail)
          obtain ⟨h0, -, -, b06⟩ := hkeep.out w6 b6
          have HBN := Lib.hid (hB.out.trans ((HB0.out.trans (b6.mono HB0.out.size)).mono hB.out.size))
          clear hkeep f0 f8 f9 HY' HE' b06 b5 b6
          go_wp2_with fail
          go_roundw
          case rel => exact ⟨k + 1, u + (1 + x + z), by omega, by go_num, by rw [IntWalk.i64_in ((u : Int) + 1 + (x : Int)) (by omega), IntWalk.i64_in ((u : Int) + 1 + (x : Int) + (z : Int)) (by omega)]; go_num, by omega, by have h := HV.out; rw [HC.out] at h; exact h, HBN.out⟩
          case measure => simp [intOf]; omega
        have HC : Hid (costF d (.node rk rt a b y e) = 1) := by show costF _ _ = _; rw [HQ.out, costF, if_neg h4, if_neg h5, if_neg h7]
        have t4 : ((rk : Int) == 4) = false := by simp; omega
        have t5 : ((rk : Int) == 5) = false := by simp; omega
        have t7 : ((rk : Int) == 7) = false := by simp; omega
        have HBN := Lib.hid (hB.out.trans (b0.mono hB.out.size))
        clear h4 h5 h7 HY HE tn z0 b0
        go_wp2_with fail
        go_roundw
        case rel => exact ⟨k + 1, u + (1), by omega, by go_num, by go_num, by omega, by have h := HV.out; rw [HC.out] at h; exact h, HBN.out⟩
        case measure => simp [intOf]; omega
      · have i2 : ¬ ((u : Int) ≤ 2000) := by omega
        have i3 : (2000 : Int) < (u : Int) := by omega
        have HD := Lib.hid (hv.out.done (.inr (by omega)))
        have hu3 : 2000 < u := by omega
        clear hv hk
        go_wp2_with fail
        go_ret
        exact ⟨by rw [HD.out, if_pos hu3]; rfl, hb⟩
    · have i1 : ¬ ((k : Int) < (tx.length : Int)) := by omega
      have HD := Lib.hid (hv.out.done (.inl (by omega)))
      clear hv
      by_cases hu3 : 2000 < u
      · have i3 : (2000 : Int) < (u : Int) := by omega
        rw [if_pos hu3] at HD
        go_wp2_with fail
        go_ret
        exact ⟨by rw [HD.out]; rfl, hb⟩
      · have i3 : ¬ ((2000 : Int) < (u : Int)) := by omega
        rw [if_neg hu3] at HD
        go_wp2_with fail
        go_ret
        exact ⟨by rw [HD.out]; rfl, hb⟩
end Go.Proofs.YtnkdaehmdcpafaaDoor
