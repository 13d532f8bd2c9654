/-
  CONTRACT OF seesawref05's Same (the document's own answer of layer 5): whether two transactions are the same; the memory that was there stays as it was. Conditions: as they stand.
-/
import Derived.Test.YtpgkhodofhnpnaaDoorCm
import Derived.Test.YtpgkhodofhnpnaaDoorZe
import Derived.Deep.DeepCutAuto
import Derived.Deep.CutBlock
namespace Go.Proofs.YtpgkhodofhnpnaaDoor
set_option maxRecDepth 100000
open Go.RowKit
set_option linter.unusedVariables false
theorem two_ten (w : World) (r r2 : Raw) : w.heap.size < ((w.alloc (.cells #[.int .u8 r.k, .int .i64 r.t, .int .u8 r.ao, .int .i64 r.an, .slice r.aA r.al r.ac, .int .u8 r.bo, .int .i64 r.bn, .slice r.bA r.bl r.bc, .slice r.yA r.yl r.yc, .slice r.eA r.el r.ec] 33)).alloc (.cells #[.int .u8 r2.k, .int .i64 r2.t, .int .u8 r2.ao, .int .i64 r2.an, .slice r2.aA r2.al r2.ac, .int .u8 r2.bo, .int .i64 r2.bn, .slice r2.bA r2.bl r2.bc, .slice r2.yA r2.yl r2.yc, .slice r2.eA r2.el r2.ec] 33)).heap.size ∧ w.heap.size + 1 < ((w.alloc (.cells #[.int .u8 r.k, .int .i64 r.t, .int .u8 r.ao, .int .i64 r.an, .slice r.aA r.al r.ac, .int .u8 r.bo, .int .i64 r.bn, .slice r.bA r.bl r.bc, .slice r.yA r.yl r.yc, .slice r.eA r.el r.ec] 33)).alloc (.cells #[.int .u8 r2.k, .int .i64 r2.t, .int .u8 r2.ao, .int .i64 r2.an, .slice r2.aA r2.al r2.ac, .int .u8 r2.bo, .int .i64 r2.bn, .slice r2.bA r2.bl r2.bc, .slice r2.yA r2.yl r2.yc, .slice r2.eA r2.el r2.ec] 33)).heap.size ∧ Ten ((w.alloc (.cells #[.int .u8 r.k, .int .i64 r.t, .int .u8 r.ao, .int .i64 r.an, .slice r.aA r.al r.ac, .int .u8 r.bo, .int .i64 r.bn, .slice r.bA r.bl r.bc, .slice r.yA r.yl r.yc, .slice r.eA r.el r.ec] 33)).alloc (.cells #[.int .u8 r2.k, .int .i64 r2.t, .int .u8 r2.ao, .int .i64 r2.an, .slice r2.aA r2.al r2.ac, .int .u8 r2.bo, .int .i64 r2.bn, .slice r2.bA r2.bl r2.bc, .slice r2.yA r2.yl r2.yc, .slice r2.eA r2.el r2.ec] 33)) ⟨w.heap.size, 0, none⟩ r ∧ Ten ((w.alloc (.cells #[.int .u8 r.k, .int .i64 r.t, .int .u8 r.ao, .int .i64 r.an, .slice r.aA r.al r.ac, .int .u8 r.bo, .int .i64 r.bn, .slice r.bA r.bl r.bc, .slice r.yA r.yl r.yc, .slice r.eA r.el r.ec] 33)).alloc (.cells #[.int .u8 r2.k, .int .i64 r2.t, .int .u8 r2.ao, .int .i64 r2.an, .slice r2.aA r2.al r2.ac, .int .u8 r2.bo, .int .i64 r2.bn, .slice r2.bA r2.bl r2.bc, .slice r2.yA r2.yl r2.yc, .slice r2.eA r2.el r2.ec] 33)) ⟨w.heap.size + 1, 0, none⟩ r2 ∧ Below w.heap.size w ((w.alloc (.cells #[.int .u8 r.k, .int .i64 r.t, .int .u8 r.ao, .int .i64 r.an, .slice r.aA r.al r.ac, .int .u8 r.bo, .int .i64 r.bn, .slice r.bA r.bl r.bc, .slice r.yA r.yl r.yc, .slice r.eA r.el r.ec] 33)).alloc (.cells #[.int .u8 r2.k, .int .i64 r2.t, .int .u8 r2.ao, .int .i64 r2.an, .slice r2.aA r2.al r2.ac, .int .u8 r2.bo, .int .i64 r2.bn, .slice r2.bA r2.bl r2.bc, .slice r2.yA r2.yl r2.yc, .slice r2.eA r2.el r2.ec] 33)) := by
  have hz : (w.alloc (.cells #[.int .u8 r.k, .int .i64 r.t, .int .u8 r.ao, .int .i64 r.an, .slice r.aA r.al r.ac, .int .u8 r.bo, .int .i64 r.bn, .slice r.bA r.bl r.bc, .slice r.yA r.yl r.yc, .slice r.eA r.el r.ec] 33)).heap.size = w.heap.size + 1 := by simp
  have t1 := Ten.new w r
  have b1 := ten_below w r
  have t2 := Ten.new (w.alloc (.cells #[.int .u8 r.k, .int .i64 r.t, .int .u8 r.ao, .int .i64 r.an, .slice r.aA r.al r.ac, .int .u8 r.bo, .int .i64 r.bn, .slice r.bA r.bl r.bc, .slice r.yA r.yl r.yc, .slice r.eA r.el r.ec] 33)) r2
  have b2 := ten_below (w.alloc (.cells #[.int .u8 r.k, .int .i64 r.t, .int .u8 r.ao, .int .i64 r.an, .slice r.aA r.al r.ac, .int .u8 r.bo, .int .i64 r.bn, .slice r.bA r.bl r.bc, .slice r.yA r.yl r.yc, .slice r.eA r.el r.ec] 33)) r2
  rw [hz] at t2
  exact ⟨by simp; omega, by simp, t1.below b2 (by rw [hz]; show w.heap.size < _; omega), t2, b1.trans (b2.mono b1.size)⟩
set_option maxRecDepth 100000 in
set_option maxHeartbeats 8000000 in
theorem rtsame_of (d : Nat) : ∀ (args brgs : List St) (A B : Option Addr) (c c' lo hi lo' hi' : Nat) (w : World), SKids w lo hi d A args → SKids w lo' hi' d B brgs → hi ≤ w.heap.size → hi' ≤ w.heap.size → args.length ≤ 9223372036854775807 → brgs.length ≤ 9223372036854775807 →
    Calls Tryd.prog 33 #[.slice A args.length c, .slice B brgs.length c'] w fun r w' => r = .returned (.bool (sameSL (sameS d) args brgs)) ∧ Below w.heap.size w w' := by
  induction d using Nat.strongRecOn with
  | _ d ih =>
  intro args brgs A B c c' lo hi lo' hi' w hk hk' hhi hhi' hl hl'
  by_cases hlen : args.length = brgs.length
  case neg =>
    have HV : Hid (sameSL (sameS d) args brgs = false) := sameSL_len _ _ _ hlen
    have t0 : ¬ ((args.length : Int) = (brgs.length : Int)) := by omega
    have t1 : ((args.length : Int) == (brgs.length : Int)) = false := beq_eq_false_iff_ne.2 t0
    clear ih hk hk'
    go_enter Tryd.func33, Tryd.ntmps33
    go_wp2_with fail
    go_ret
    exact ⟨by rw [HV.out]; rfl, Below.refl _ _⟩
  have HK := Lib.hid hk
  have HK' := Lib.hid hk'
  have IH := Lib.hid ih
  obtain ⟨L, hL⟩ : ∃ L, L = args.length := ⟨_, rfl⟩
  have hL' : L = brgs.length := by omega
  rw [← hL, ← hL']
  rw [← hL] at hl
  clear hk hk' ih hlen hl'
  have HL := Lib.hid (And.intro hL hL')
  clear hL hL'
  go_enter Tryd.func33, Tryd.ntmps33
  go_wp2_with fail
  go_loopw [5] (fun i wr => ∃ k : Nat, k ≤ L ∧ i = .int .i64 k ∧ Hid (sameSL (sameS d) args brgs = sameSL (sameS d) (args.drop k) (brgs.drop k)) ∧ Below w.heap.size w wr) (fun i _ => L - (intOf i).toNat)
  case atStart => exact ⟨0, by omega, rfl, rfl, Below.refl _ _⟩
  case round =>
    obtain ⟨k, hk, rfl, hv, hb⟩ := hrel
    obtain ⟨hL, hL'⟩ := HL.out
    by_cases hlt : k < L
    · have i1 : (k : Int) < (L : Int) := by omega
      have i0 : (0 : Int) ≤ (k : Int) := by omega
      have hdr := hv.out
      rw [sameSL_drop _ _ _ k (by omega) (by omega)] at hdr
      obtain ⟨p, r, rfl, m1, m2, ht, hs⟩ := HK.out.below hb (by omega) k (by omega)
      obtain ⟨p2, r2, rfl, m3, m4, ht2, hs2⟩ := HK'.out.below hb (by omega) k (by omega)
      obtain ⟨q, rfl⟩ := hs.pos
      obtain ⟨s, hsx⟩ : ∃ s, s = args[k] := ⟨_, rfl⟩
      obtain ⟨s2, hsx2⟩ : ∃ s, s = brgs[k] := ⟨_, rfl⟩
      rw [← hsx, ← hsx2] at hdr
      rw [← hsx] at hs
      rw [← hsx2] at hs2
      obtain ⟨k1, t1, a1, b1, y1, e1⟩ := s
      obtain ⟨k2, t2, a2, b2, y2, e2⟩ := s2
      obtain ⟨⟨u1, u2, u3, u4⟩, ⟨q1, q2, q3, q4, q5⟩, ha, hbb, hy, he⟩ := hs.open_
      obtain ⟨⟨v1, v2, v3, v4⟩, ⟨z1, z2, z3, z4, z5⟩, ha2, hbb2, hy2, he2⟩ := hs2.open_
      have hzr := hb.size
      have HA := Lib.hid (fun W' (h' : Below wr.heap.size wr W') => rsame_any q a1 a2 r.va r2.va lo hi lo' hi' W' (ha.below h' (by omega)) (ha2.below h' (by omega)) (by have := h'.size; omega) (by have := h'.size; omega))
      have HBB := Lib.hid (fun W' (h' : Below wr.heap.size wr W') => rsame_any q b1 b2 r.vb r2.vb lo hi lo' hi' W' (hbb.below h' (by omega)) (hbb2.below h' (by omega)) (by have := h'.size; omega) (by have := h'.size; omega))
      have HY := Lib.hid (fun W' (h' : Below wr.heap.size wr W') => IH.out q (by omega) y1 y2 r.yA r2.yA r.yc r2.yc lo hi lo' hi' W' (hy.below h' (by omega)) (hy2.below h' (by omega)) (by have := h'.size; omega) (by have := h'.size; omega) q4 z4)
      have HE := Lib.hid (fun W' (h' : Below wr.heap.size wr W') => IH.out q (by omega) e1 e2 r.eA r2.eA r.ec r2.ec lo hi lo' hi' W' (he.below h' (by omega)) (he2.below h' (by omega)) (by have := h'.size; omega) (by have := h'.size; omega) q5 z5)
      have hV : sameS (q + 1) (.node k1 t1 a1 b1 y1 e1) (.node k2 t2 a2 b2 y2 e2) = (decide (k1 = k2) && (decide (t1 = t2) && (sameF q a1 a2 && (sameF q b1 b2 && (sameSL (sameS q) y1 y2 && sameSL (sameS q) e1 e2))))) := rfl
      rw [hV] at hdr
      obtain ⟨x1, hx1⟩ : ∃ x, x = sameF q a1 a2 := ⟨_, rfl⟩
      obtain ⟨x2, hx2⟩ : ∃ x, x = sameF q b1 b2 := ⟨_, rfl⟩
      obtain ⟨x3, hx3⟩ : ∃ x, x = sameSL (sameS q) y1 y2 := ⟨_, rfl⟩
      obtain ⟨x4, hx4⟩ : ∃ x, x = sameSL (sameS q) e1 e2 := ⟨_, rfl⟩
      rw [← hx1, ← hx2, ← hx3, ← hx4] at hdr
      rw [← hx1] at HA
      rw [← hx2] at HBB
      rw [← hx3, ← u3, ← v3] at HY
      rw [← hx4, ← u4, ← v4] at HE
      have HDR := Lib.hid hdr
      have T1 := Lib.hid (fun W' (h' : Below wr.heap.size wr W') => ht.below h' (by rw [ad_block]; omega))
      have T2 := Lib.hid (fun W' (h' : Below wr.heap.size wr W') => ht2.below h' (by rw [ad_block]; omega))
      obtain ⟨rk, rt, rao, ran, raA, ral, rac, rbo, rbn, rbA, rbl, rbc, ryA, ryl, ryc, reA, rel, r9c⟩ := r
      obtain ⟨sk, st, sao, san, saA, sal, sac, sbo, sbn, sbA, sbl, sbc, syA, syl, syc, seA, sel, s9c⟩ := r2
      dsimp only [Raw.va, Raw.vb] at *
      subst u1 u2 v1 v2
      have hB := Lib.hid hb
      have hkeep : Hid (∀ w' : World, Below wr.heap.size wr w' → w'.cell? (p.add (k * 10)) = some (.int .u8 rk) ∧ w'.cell? ⟨(p.add (k * 10)).block, (p.add (k * 10)).off + 1, none⟩ = some (.int .i64 rt) ∧ w'.cell? ⟨(p.add (k * 10)).block, (p.add (k * 10)).off + 2, none⟩ = some (.int .u8 rao) ∧ w'.cell? ⟨(p.add (k * 10)).block, (p.add (k * 10)).off + 3, none⟩ = some (.int .i64 ran) ∧ w'.cell? ⟨(p.add (k * 10)).block, (p.add (k * 10)).off + 4, none⟩ = some (.slice raA ral rac) ∧ w'.cell? ⟨(p.add (k * 10)).block, (p.add (k * 10)).off + 5, none⟩ = some (.int .u8 rbo) ∧ w'.cell? ⟨(p.add (k * 10)).block, (p.add (k * 10)).off + 6, none⟩ = some (.int .i64 rbn) ∧ w'.cell? ⟨(p.add (k * 10)).block, (p.add (k * 10)).off + 7, none⟩ = some (.slice rbA rbl rbc) ∧ w'.cell? ⟨(p.add (k * 10)).block, (p.add (k * 10)).off + 8, none⟩ = some (.slice ryA ryl ryc) ∧ w'.cell? ⟨(p.add (k * 10)).block, (p.add (k * 10)).off + 9, none⟩ = some (.slice reA rel r9c) ∧ w'.cell? (p2.add (k * 10)) = some (.int .u8 sk) ∧ w'.cell? ⟨(p2.add (k * 10)).block, (p2.add (k * 10)).off + 1, none⟩ = some (.int .i64 st) ∧ w'.cell? ⟨(p2.add (k * 10)).block, (p2.add (k * 10)).off + 2, none⟩ = some (.int .u8 sao) ∧ w'.cell? ⟨(p2.add (k * 10)).block, (p2.add (k * 10)).off + 3, none⟩ = some (.int .i64 san) ∧ w'.cell? ⟨(p2.add (k * 10)).block, (p2.add (k * 10)).off + 4, none⟩ = some (.slice saA sal sac) ∧ w'.cell? ⟨(p2.add (k * 10)).block, (p2.add (k * 10)).off + 5, none⟩ = some (.int .u8 sbo) ∧ w'.cell? ⟨(p2.add (k * 10)).block, (p2.add (k * 10)).off + 6, none⟩ = some (.int .i64 sbn) ∧ w'.cell? ⟨(p2.add (k * 10)).block, (p2.add (k * 10)).off + 7, none⟩ = some (.slice sbA sbl sbc) ∧ w'.cell? ⟨(p2.add (k * 10)).block, (p2.add (k * 10)).off + 8, none⟩ = some (.slice syA syl syc) ∧ w'.cell? ⟨(p2.add (k * 10)).block, (p2.add (k * 10)).off + 9, none⟩ = some (.slice seA sel s9c) ∧ Below wr.heap.size wr w') := fun w' h' => by
        have t := T1.out w' h'
        have t2 := T2.out w' h'
        exact ⟨t.c0, t.c1, t.c2, t.c3, t.c4, t.c5, t.c6, t.c7, t.c8, t.c9, t2.c0, t2.c1, t2.c2, t2.c3, t2.c4, t2.c5, t2.c6, t2.c7, t2.c8, t2.c9, h'⟩
      clear hL hL' ht ht2 hs hs2 hsx hsx2 hx1 hx2 hx3 hx4 hy he ha hbb hy2 he2 ha2 hbb2 m1 m2 m3 m4 hzr hb hv hk hdr hV u3 u4 v3 v4 T1 T2
      go_upto_region 6 with fail
      go_cut [6, 7] (fun v6 v7 wx => ∃ g6 g7 : Nat, v6 = .pointer (some ⟨g6, 0, none⟩) ∧ v7 = .pointer (some ⟨g7, 0, none⟩) ∧ Hid (g6 < wx.heap.size ∧ g7 < wx.heap.size ∧ Ten wx ⟨g6, 0, none⟩ ⟨rk, rt, rao, ran, raA, ral, rac, rbo, rbn, rbA, rbl, rbc, ryA, ryl, ryc, reA, rel, r9c⟩ ∧ Ten wx ⟨g7, 0, none⟩ ⟨sk, st, sao, san, saA, sal, sac, sbo, sbn, sbA, sbl, sbc, syA, syl, syc, seA, sel, s9c⟩ ∧ Below wr.heap.size wr wx))
      case first =>
        have E0 := Lib.hid (hkeep.out wr (Below.refl _ _))
        have E1 := Lib.hid (hkeep.out wr.drew (Below.refl _ _).drew)
        obtain ⟨g0, g1, g2, g3, g4, g5, g6, g7, g8, g9, h0, h1, h2, h3, h4, h5, h6, h7, h8, h9, -⟩ := E0.out
        go_region_held3 (fun w' => w'.cell? (p.add (k * 10)) = some (.int .u8 rk) ∧ w'.cell? ⟨(p.add (k * 10)).block, (p.add (k * 10)).off + 1, none⟩ = some (.int .i64 rt) ∧ w'.cell? ⟨(p.add (k * 10)).block, (p.add (k * 10)).off + 2, none⟩ = some (.int .u8 rao) ∧ w'.cell? ⟨(p.add (k * 10)).block, (p.add (k * 10)).off + 3, none⟩ = some (.int .i64 ran) ∧ w'.cell? ⟨(p.add (k * 10)).block, (p.add (k * 10)).off + 4, none⟩ = some (.slice raA ral rac) ∧ w'.cell? ⟨(p.add (k * 10)).block, (p.add (k * 10)).off + 5, none⟩ = some (.int .u8 rbo) ∧ w'.cell? ⟨(p.add (k * 10)).block, (p.add (k * 10)).off + 6, none⟩ = some (.int .i64 rbn) ∧ w'.cell? ⟨(p.add (k * 10)).block, (p.add (k * 10)).off + 7, none⟩ = some (.slice rbA rbl rbc) ∧ w'.cell? ⟨(p.add (k * 10)).block, (p.add (k * 10)).off + 8, none⟩ = some (.slice ryA ryl ryc) ∧ w'.cell? ⟨(p.add (k * 10)).block, (p.add (k * 10)).off + 9, none⟩ = some (.slice reA rel r9c) ∧ w'.cell? (p2.add (k * 10)) = some (.int .u8 sk) ∧ w'.cell? ⟨(p2.add (k * 10)).block, (p2.add (k * 10)).off + 1, none⟩ = some (.int .i64 st) ∧ w'.cell? ⟨(p2.add (k * 10)).block, (p2.add (k * 10)).off + 2, none⟩ = some (.int .u8 sao) ∧ w'.cell? ⟨(p2.add (k * 10)).block, (p2.add (k * 10)).off + 3, none⟩ = some (.int .i64 san) ∧ w'.cell? ⟨(p2.add (k * 10)).block, (p2.add (k * 10)).off + 4, none⟩ = some (.slice saA sal sac) ∧ w'.cell? ⟨(p2.add (k * 10)).block, (p2.add (k * 10)).off + 5, none⟩ = some (.int .u8 sbo) ∧ w'.cell? ⟨(p2.add (k * 10)).block, (p2.add (k * 10)).off + 6, none⟩ = some (.int .i64 sbn) ∧ w'.cell? ⟨(p2.add (k * 10)).block, (p2.add (k * 10)).off + 7, none⟩ = some (.slice sbA sbl sbc) ∧ w'.cell? ⟨(p2.add (k * 10)).block, (p2.add (k * 10)).off + 8, none⟩ = some (.slice syA syl syc) ∧ w'.cell? ⟨(p2.add (k * 10)).block, (p2.add (k * 10)).off + 9, none⟩ = some (.slice seA sel s9c) ∧ Below wr.heap.size wr w')
          (first | exact E0.out | exact E1.out | (refine hkeep.out _ ?_; go_grown) | fail)
          (fail)
        · go_wp2_with fail
          go_meet
          case rel =>
            obtain ⟨j1, j2, j3, j4, j5⟩ := two_ten wr ⟨rk, rt, rao, ran, raA, ral, rac, rbo, rbn, rbA, rbl, rbc, ryA, ryl, ryc, reA, rel, r9c⟩ ⟨sk, st, sao, san, saA, sal, sac, sbo, sbn, sbA, sbl, sbc, syA, syl, syc, seA, sel, s9c⟩
            exact ⟨_, _, rfl, rfl, j1, j2, j3.keep (fun _ _ => rfl), j4.keep (fun _ _ => rfl), j5.drew⟩
        · go_wp2_with fail
          go_meet
          case rel =>
            obtain ⟨j1, j2, j3, j4, j5⟩ := two_ten wr ⟨sk, st, sao, san, saA, sal, sac, sbo, sbn, sbA, sbl, sbc, syA, syl, syc, seA, sel, s9c⟩ ⟨rk, rt, rao, ran, raA, ral, rac, rbo, rbn, rbA, rbl, rbc, ryA, ryl, ryc, reA, rel, r9c⟩
            exact ⟨_, _, rfl, rfl, j2, j1, j4.keep (fun _ _ => rfl), j3.keep (fun _ _ => rfl), j5.drew⟩
      case rest =>
        obtain ⟨g6, g7, rfl, rfl, hz6, hz7, tn1, tn2, bx⟩ := hcut
        clear hkeep
        have HT1 := Lib.hid (fun W' (h' : Below wc.heap.size wc W') => tn1.below h' hz6)
        have HT2 := Lib.hid (fun W' (h' : Below wc.heap.size wc W') => tn2.below h' hz7)
        have HBX := Lib.hid bx
        have t1 := HT1.out wc (Below.refl wc.heap.size wc)
        have t2 := HT2.out wc (Below.refl wc.heap.size wc)
        have f0 := t1.c0
        have h0 := t2.c0
        have f1 := t1.c1
        have h1 := t2.c1
        have f2 := t1.c2
        have h2 := t2.c2
        have f3 := t1.c3
        have h3 := t2.c3
        have f4 := t1.c4
        have h4 := t2.c4
        dsimp only at f0 h0 f1 h1 f2 h2 f3 h3 f4 h4
        rw [Nat.zero_add] at f1 h1 f2 h2 f3 h3 f4 h4
        clear t1 t2
        clear tn1 tn2 bx hz6 hz7
        by_cases c1 : rk = sk
        case neg =>
          have i2 : ((rk : Int) != (sk : Int)) = true := bne_iff_ne.2 (by omega)
          have HF : Hid (sameSL (sameS (q + 1)) args brgs = false) := HDR.out.trans (by rw [decide_eq_false c1, Bool.false_and, Bool.false_and])
          go_wp2_with fail
          go_ret
          exact ⟨by rw [HF.out]; rfl, hB.out.trans ((HBX.out).mono hB.out.size)⟩
        have i2 : ((rk : Int) != (sk : Int)) = false := bne_eq_false_iff_eq.2 (by omega)
        by_cases c2 : rt = st
        case neg =>
          have i3 : (rt != st) = true := bne_iff_ne.2 c2
          have HF : Hid (sameSL (sameS (q + 1)) args brgs = false) := HDR.out.trans (by rw [decide_eq_false c2, Bool.false_and, Bool.and_false, Bool.false_and])
          go_wp2_with fail
          go_ret
          exact ⟨by rw [HF.out]; rfl, hB.out.trans ((HBX.out).mono hB.out.size)⟩
        have i3 : (rt != st) = false := bne_eq_false_iff_eq.2 c2
        have HDR2 : Hid (sameSL (sameS (q + 1)) args brgs = ((x1 && (x2 && (x3 && x4))) && sameSL (sameS (q + 1)) (args.drop (k + 1)) (brgs.drop (k + 1)))) := HDR.out.trans (by rw [decide_eq_true c1, decide_eq_true c2, Bool.true_and, Bool.true_and])
        clear HDR c1 c2
        go_wp2_with fail
        refine (HA.out wc HBX.out).mono ?_
        rintro _ w5 ⟨rfl, b5⟩
        have H5 := Lib.hid (HBX.out.trans (b5.mono HBX.out.size))
        have t1 := HT1.out w5 (b5)
        have t2 := HT2.out w5 (b5)
        have f5 := t1.c5
        have h5 := t2.c5
        have f6 := t1.c6
        have h6 := t2.c6
        have f7 := t1.c7
        have h7 := t2.c7
        dsimp only at f5 h5 f6 h6 f7 h7
        rw [Nat.zero_add] at f5 h5 f6 h6 f7 h7
        clear t1 t2
        clear f0 h0 f1 h1 f2 h2 f3 h3 f4 h4 i2 i3
        cases x1 with
        | false =>
          have HF : Hid (sameSL (sameS (q + 1)) args brgs = false) := HDR2.out.trans (by simp)
          go_wp2_with fail
          go_ret
          exact ⟨by rw [HF.out]; rfl, hB.out.trans ((H5.out).mono hB.out.size)⟩
        | true =>
          go_wp2_with fail
          refine (HBB.out w5 H5.out).mono ?_
          rintro _ w6 ⟨rfl, b6⟩
          have H6 := Lib.hid (H5.out.trans (b6.mono H5.out.size))
          have b56 := b5.trans (b6.mono b5.size)
          have t1 := HT1.out w6 (b56)
          have t2 := HT2.out w6 (b56)
          have f8 := t1.c8
          have h8 := t2.c8
          dsimp only at f8 h8
          rw [Nat.zero_add] at f8 h8
          clear t1 t2
          clear f5 h5 f6 h6 f7 h7
          cases x2 with
          | false =>
            have HF : Hid (sameSL (sameS (q + 1)) args brgs = false) := HDR2.out.trans (by simp)
            go_wp2_with fail
            go_ret
            exact ⟨by rw [HF.out]; rfl, hB.out.trans ((H6.out).mono hB.out.size)⟩
          | true =>
            go_wp2_with fail
            refine (HY.out w6 H6.out).mono ?_
            rintro _ w7 ⟨rfl, b7⟩
            have H7 := Lib.hid (H6.out.trans (b7.mono H6.out.size))
            have b57 := b56.trans (b7.mono b56.size)
            have t1 := HT1.out w7 (b57)
            have t2 := HT2.out w7 (b57)
            have f9 := t1.c9
            have h9 := t2.c9
            dsimp only at f9 h9
            rw [Nat.zero_add] at f9 h9
            clear t1 t2
            clear f8 h8
            cases x3 with
            | false =>
              have HF : Hid (sameSL (sameS (q + 1)) args brgs = false) := HDR2.out.trans (by simp)
              go_wp2_with fail
              go_ret
              exact ⟨by rw [HF.out]; rfl, hB.out.trans ((H7.out).mono hB.out.size)⟩
            | true =>
              go_wp2_with fail
              refine (HE.out w7 H7.out).mono ?_
              rintro _ w8 ⟨rfl, b8⟩
              have H8 := Lib.hid (H7.out.trans (b8.mono H7.out.size))
              cases x4 with
              | false =>
                have HF : Hid (sameSL (sameS (q + 1)) args brgs = false) := HDR2.out.trans (by simp)
                go_wp2_with fail
                go_ret
                exact ⟨by rw [HF.out]; rfl, hB.out.trans ((H8.out).mono hB.out.size)⟩
              | true =>
                have HP : Hid (sameSL (sameS (q + 1)) args brgs = sameSL (sameS (q + 1)) (args.drop (k + 1)) (brgs.drop (k + 1))) := HDR2.out.trans (by simp)
                go_wp2_with fail
                go_roundw
                case rel => exact ⟨k + 1, by omega, by go_num, HP.out, hB.out.trans (H8.out.mono hB.out.size)⟩
                case measure => simp [intOf]; omega
    · have i1 : ¬ ((k : Int) < (L : Int)) := by omega
      have HF : Hid (sameSL (sameS d) args brgs = true) := by show _ = _; rw [hv.out, List.drop_eq_nil_of_le (by omega), List.drop_eq_nil_of_le (by omega)]; rfl
      clear hv hL hL'
      go_wp2_with fail
      go_ret
      exact ⟨by rw [HF.out]; rfl, hb⟩
end Go.Proofs.YtpgkhodofhnpnaaDoor
