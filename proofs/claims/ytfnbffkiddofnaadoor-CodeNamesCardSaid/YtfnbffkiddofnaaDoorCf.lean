/-
  CONTRACT OF CodeNames (layer 5): it comes to true; the memory that was there stays as it was. Condition: the table of what each Kind asks lies as its initialiser lays it.
-/
import Derived.Test.YtfnbffkiddofnaaDoorCg
namespace Go.Proofs.YtfnbffkiddofnaaDoor
open Go.RowKit Go.Deep
set_option linter.unusedVariables false
theorem len21 {α : Type} (l : List α) (h : l.length = 21) : ∃ a0 a1 a2 a3 a4 a5 a6 a7 a8 a9 a10 a11 a12 a13 a14 a15 a16 a17 a18 a19 a20, l = [a0, a1, a2, a3, a4, a5, a6, a7, a8, a9, a10, a11, a12, a13, a14, a15, a16, a17, a18, a19, a20] := by
  match l, h with
  | [a0, a1, a2, a3, a4, a5, a6, a7, a8, a9, a10, a11, a12, a13, a14, a15, a16, a17, a18, a19, a20], _ => exact ⟨_, _, _, _, _, _, _, _, _, _, _, _, _, _, _, _, _, _, _, _, _, rfl⟩
theorem len42 {α : Type} (l : List α) (h : l.length = 42) : ∃ a0 a1 a2 a3 a4 a5 a6 a7 a8 a9 a10 a11 a12 a13 a14 a15 a16 a17 a18 a19 a20 a21 a22 a23 a24 a25 a26 a27 a28 a29 a30 a31 a32 a33 a34 a35 a36 a37 a38 a39 a40 a41, l = [a0, a1, a2, a3, a4, a5, a6, a7, a8, a9, a10, a11, a12, a13, a14, a15, a16, a17, a18, a19, a20, a21, a22, a23, a24, a25, a26, a27, a28, a29, a30, a31, a32, a33, a34, a35, a36, a37, a38, a39, a40, a41] := by
  obtain ⟨x, y, rfl, hx, hy⟩ : ∃ x y, l = x ++ y ∧ x.length = 21 ∧ y.length = 21 := ⟨l.take 21, l.drop 21, by simp, by simp [h], by simp [h]⟩
  obtain ⟨a0, a1, a2, a3, a4, a5, a6, a7, a8, a9, a10, a11, a12, a13, a14, a15, a16, a17, a18, a19, a20, rfl⟩ := len21 x hx
  obtain ⟨a21, a22, a23, a24, a25, a26, a27, a28, a29, a30, a31, a32, a33, a34, a35, a36, a37, a38, a39, a40, a41, rfl⟩ := len21 y hy
  exact ⟨_, _, _, _, _, _, _, _, _, _, _, _, _, _, _, _, _, _, _, _, _, _, _, _, _, _, _, _, _, _, _, _, _, _, _, _, _, _, _, _, _, _, rfl⟩
theorem len9 {α : Type} (l : List α) (h : l.length = 9) : ∃ a0 a1 a2 a3 a4 a5 a6 a7 a8, l = [a0, a1, a2, a3, a4, a5, a6, a7, a8] := by
  match l, h with
  | [a0, a1, a2, a3, a4, a5, a6, a7, a8], _ => exact ⟨_, _, _, _, _, _, _, _, _, rfl⟩
theorem len18 {α : Type} (l : List α) (h : l.length = 18) : ∃ a0 a1 a2 a3 a4 a5 a6 a7 a8 a9 a10 a11 a12 a13 a14 a15 a16 a17, l = [a0, a1, a2, a3, a4, a5, a6, a7, a8, a9, a10, a11, a12, a13, a14, a15, a16, a17] := by
  match l, h with
  | [a0, a1, a2, a3, a4, a5, a6, a7, a8, a9, a10, a11, a12, a13, a14, a15, a16, a17], _ => exact ⟨_, _, _, _, _, _, _, _, _, _, _, _, _, _, _, _, _, _, rfl⟩
theorem SK.at_ {w : World} {D : Nat} {A : Option Addr} {l : List St} (h : SK w D A l) (k : Nat) (hk : k < l.length) : ∃ p q, A = some p ∧ p.block < w.heap.size ∧ Ten w (p.add (k * 10)) q ∧ SA w D q l[k] := by
  obtain ⟨p, q, h1, _, h2, h3, h4⟩ := h k hk
  exact ⟨p, q, h1, h2, h3, h4⟩
set_option maxRecDepth 100000 in
set_option maxHeartbeats 4000000 in
theorem cnames_any (w : World) (hkd : Kd w) : Calls Tryd.prog 3 #[] w fun z w' => z = .returned (.bool true) ∧ Below w.heap.size w w' := by
  have HW := Lib.hid (works_any w hkd)
  have hrd := Lib.hid cread_any
  have HKD := Lib.hid hkd
  clear hkd
  go_enter Tryd.func3, Tryd.ntmps3
  go_wp2_with fail
  refine HW.out.mono ?_
  rintro z w1 ⟨rfl, b1⟩
  go_wp2_with fail
  refine (hrd.out w1).mono ?_
  rintro z w2 ⟨rfl, b2⟩
  go_upto_region 5 with fail
  obtain ⟨W3, hW3⟩ : ∃ W3, W3 = (w2.alloc (.cells #[.int .u8 2, .int .i64 0, .int .u8 1, .int .i64 0, .slice none 0 0, .int .u8 0, .int .i64 0, .slice none 0 0, .slice none 0 0, .slice none 0 0] 28)).alloc (.cells #[.int .u8 3, .int .i64 2, .slice none 0 0] 25) := ⟨_, rfl⟩
  have hz2 : (w2.alloc (.cells #[.int .u8 2, .int .i64 0, .int .u8 1, .int .i64 0, .slice none 0 0, .int .u8 0, .int .i64 0, .slice none 0 0, .slice none 0 0, .slice none 0 0] 28)).heap.size = w2.heap.size + 1 := by simp
  have k2 := SK.one (sa_read w2 2)
  have b23 : Below (w2.alloc (.cells #[.int .u8 2, .int .i64 0, .int .u8 1, .int .i64 0, .slice none 0 0, .int .u8 0, .int .i64 0, .slice none 0 0, .slice none 0 0, .slice none 0 0] 28)).heap.size (w2.alloc (.cells #[.int .u8 2, .int .i64 0, .int .u8 1, .int .i64 0, .slice none 0 0, .int .u8 0, .int .i64 0, .slice none 0 0, .slice none 0 0, .slice none 0 0] 28)) W3 := by rw [hW3]; exact (Below.refl _ _).alloc (Nat.le_refl _) _
  have hone : SK W3 4 (some ⟨w2.heap.size, 0, none⟩) [sRead] := k2.below b23
  have hrow : W3.heap[w2.heap.size + 1]? = some (.cells #[.int .u8 3, .int .i64 2, .slice none 0 0] 25 (0, 0)) := by
    have := heap_alloc_new (w2.alloc (.cells #[.int .u8 2, .int .i64 0, .int .u8 1, .int .i64 0, .slice none 0 0, .int .u8 0, .int .i64 0, .slice none 0 0, .slice none 0 0, .slice none 0 0] 28)) (.cells #[.int .u8 3, .int .i64 2, .slice none 0 0] 25)
    rw [hz2] at this
    rw [hW3]
    exact this
  have hgl : w2.heap.size + 1 < W3.heap.size := lt_of_block hrow
  have b3 : Below w.heap.size w W3 := by
    have h1 := b1.trans (b2.mono b1.size)
    exact (h1.alloc h1.size _).trans (b23.mono (by have := h1.size; rw [hz2]; omega))
  rw [← hW3]
  clear hW3 hz2 k2 b23 b1 b2 HW
  obtain ⟨B1, hB1⟩ : ∃ B1, B1 = w2.heap.size := ⟨_, rfl⟩
  rw [← hB1] at hone hrow hgl ⊢
  clear hB1 w2
  have HE : Hid (∀ wq, Below W3.heap.size W3 wq → wq.cell? ⟨B1 + 1, 0, none⟩ = some (.int .u8 3) ∧ wq.cell? ⟨B1 + 1, 1, none⟩ = some (.int .i64 2) ∧ wq.cell? ⟨B1 + 1, 2, none⟩ = some (.slice none 0 0)) := fun wq hq => by
    have hr := (hq.block (B1 + 1) hgl).trans hrow
    exact ⟨cell_of_row wq _ 0 _ _ (0, 0) hr, cell_of_row wq _ 1 _ _ (0, 0) hr, cell_of_row wq _ 2 _ _ (0, 0) hr⟩
  have HONE := Lib.hid hone
  have HK3 := Lib.hid (HKD.out.below b3 (Nat.le_refl _))
  have HB3 := Lib.hid b3
  clear hone hrow hgl b3
  refine reg5 (by kernel_rfl) _ (by show 67 ≤ 200; decide) W3 (some ⟨B1, 0, none⟩) 1 (B1 + 1) rfl rfl HONE.out HE.out ?_
  intro us wq A c hu hb hK f39 f40 f41
  obtain ⟨x0, x1, x2, x3, x4, x5, x6, x7, x8, x9, x10, x11, x12, x13, x14, x15, x16, x17, x18, x19, x20, x21, x22, x23, x24, x25, x26, x27, x28, x29, x30, x31, x32, x33, x34, x35, x36, x37, x38, x39, x40, x41, rfl⟩ := len42 us hu
  have e39 : x39 = .slice A 17 c := f39
  have e40 : x40 = .int .i64 17 := f40
  have e41 : x41 = .int .i64 0 := f41
  subst e39
  subst e40
  subst e41
  have HB := Lib.hid hb
  have HK := Lib.hid hK
  clear hu hb hK f39 f40 f41
  simp only [fr, List.take_succ_cons, List.take_zero, List.drop_succ_cons, List.drop_zero, List.cons_append, List.nil_append]
  go_wp2_with fail
  go_loopw [66] (fun i wr => ∃ k : Nat, k ≤ 17 ∧ i = .int .i64 k ∧ Below wq.heap.size wq wr) (fun i _ => 17 - (intOf i).toNat)
  case atStart => exact ⟨0, by omega, rfl, Below.refl _ _⟩
  case round =>
    obtain ⟨k, hk, rfl, hb⟩ := hrel
    by_cases hlt : k < 17
    · obtain ⟨p, q, rfl, m1, ht, hs⟩ := (HK.out.below hb).at_ k hlt
      have g0 := ht.c0
      have g1 := ht.c1
      have g2 := ht.c2
      have g3 := ht.c3
      have g4 := ht.c4
      have g5 := ht.c5
      have g6 := ht.c6
      have g7 := ht.c7
      have g8 := ht.c8
      have g9 := ht.c9
      have bx := ten_below wr q
      have tn := Ten.new wr q
      have hs2 := hs.below bx
      have hbad := bad_not badL[k] (List.getElem_mem hlt)
      have b03 := HB.out.trans ((hb.trans (bx.mono hb.size)).mono HB.out.size)
      have hkdx := HK3.out.below b03 (Nat.le_refl _)
      obtain ⟨qk, qt, qao, qan, qaA, qal, qac, qbo, qbn, qbA, qbl, qbc, qyA, qyl, qyc, qeA, qel, qec⟩ := q
      dsimp only at g0 g1 g2 g3 g4 g5 g6 g7 g8 g9 bx tn hs2 b03 hkdx
      have HX := Lib.hid (And.intro tn (And.intro hs2 (And.intro hbad (And.intro hkdx (And.intro hb bx)))))
      clear ht hs bx tn hs2 hbad b03 hkdx m1
      have i1 : (0 : Int) ≤ (k : Int) := by omega
      have i2 : (k : Int) < 17 := by omega
      go_upto_region 8 with fail
      obtain ⟨Wx, hWx⟩ : ∃ Wx, Wx = wr.alloc (.cells #[.int .u8 qk, .int .i64 qt, .int .u8 qao, .int .i64 qan, .slice qaA qal qac, .int .u8 qbo, .int .i64 qbn, .slice qbA qbl qbc, .slice qyA qyl qyc, .slice qeA qel qec] 28) := ⟨_, rfl⟩
      have hzx : wr.heap.size < Wx.heap.size := by rw [hWx]; simp
      rw [← hWx] at HX ⊢
      clear hWx
      refine reg8 (by kernel_rfl) _ (by show 79 ≤ 200; decide) Wx wr.heap.size ⟨qk, qt, qao, qan, qaA, qal, qac, qbo, qbn, qbA, qbl, qbc, qyA, qyl, qyc, qeA, qel, qec⟩ badL[k] rfl (fun wq hq => HX.out.1.below hq hzx) HX.out.2.1 HX.out.2.2.2.1 HX.out.2.2.1.1 HX.out.2.2.1.2 ?_
      intro us8 w8 hu8 hb8 f8
      obtain ⟨y0, y1, y2, y3, y4, y5, y6, y7, y8, rfl⟩ := len9 us8 hu8
      have e8 : y8 = .bool false := f8
      subst e8
      have hbn := HX.out.2.2.2.2.1.trans ((HX.out.2.2.2.2.2.trans (hb8.mono HX.out.2.2.2.2.2.size)).mono HX.out.2.2.2.2.1.size)
      have HBN := Lib.hid hbn
      clear hbn hb8 hu8 HX hzx f8
      simp only [fr, List.take_succ_cons, List.take_zero, List.drop_succ_cons, List.drop_zero, List.cons_append, List.nil_append]
      clear g0 g1 g2 g3 g4 g5 g6 g7 g8 g9
      go_wp2_with fail
      go_roundw
      case rel => exact ⟨k + 1, by omega, by go_num, HBN.out⟩
      case measure => simp [intOf]; omega
    · have i3 : ¬ ((k : Int) < 17) := by omega
      clear hk hlt
      go_upto_region 11 with fail
      have b4 := HB3.out.trans ((HB.out.trans (hb.mono HB.out.size)).mono HB3.out.size)
      have b34 := HB.out.trans (hb.mono HB.out.size)
      have HK4 := Lib.hid (HK3.out.below b34 (Nat.le_refl _))
      have HONE4 := Lib.hid (HONE.out.below b34)
      have HE4 := Lib.hid (fun wq (hq : Below wr.heap.size wr wq) => HE.out wq (b34.trans (hq.mono b34.size)))
      have HB4 := Lib.hid b4
      clear b4 b34 hb HB HB3 HK3 HONE HE HK i3
      refine reg11 (by kernel_rfl) _ (by show 98 ≤ 200; decide) wr (some ⟨B1, 0, none⟩) 1 (B1 + 1) rfl rfl HONE4.out HE4.out ?_
      intro us wq2 A2 c2 hu hb hK f15 f16 f17
      obtain ⟨z0, z1, z2, z3, z4, z5, z6, z7, z8, z9, z10, z11, z12, z13, z14, z15, z16, z17, rfl⟩ := len18 us hu
      have e15 : z15 = .slice A2 8 c2 := f15
      have e16 : z16 = .int .i64 8 := f16
      have e17 : z17 = .int .i64 0 := f17
      subst e15
      subst e16
      subst e17
      have HB := Lib.hid (HB4.out.trans (hb.mono HB4.out.size))
      have HK := Lib.hid hK
      have HK5 := Lib.hid (HK4.out.below hb (Nat.le_refl _))
      clear hu hb hK HK4 HONE4 HE4 HB4 f15 f16 f17
      simp only [fr, List.take_succ_cons, List.take_zero, List.drop_succ_cons, List.drop_zero, List.cons_append, List.nil_append]
      go_wp2_with fail
      go_loopw [97] (fun i wr => ∃ k : Nat, k ≤ 8 ∧ i = .int .i64 k ∧ Below wq2.heap.size wq2 wr) (fun i _ => 8 - (intOf i).toNat)
      case atStart => exact ⟨0, by omega, rfl, Below.refl _ _⟩
      case round =>
        obtain ⟨k, hk, rfl, hb⟩ := hrel
        by_cases hlt : k < 8
        · obtain ⟨p, q, rfl, m1, ht, hs⟩ := (HK.out.below hb).at_ k hlt
          have g0 := ht.c0
          have g1 := ht.c1
          have g2 := ht.c2
          have g3 := ht.c3
          have g4 := ht.c4
          have g5 := ht.c5
          have g6 := ht.c6
          have g7 := ht.c7
          have g8 := ht.c8
          have g9 := ht.c9
          have bx := ten_below wr q
          have hs2 := hs.below bx
          have k6 := SK.one hs2
          have by_ := ten_below (wr.alloc (.cells #[.int .u8 q.k, .int .i64 q.t, .int .u8 q.ao, .int .i64 q.an, .slice q.aA q.al q.ac, .int .u8 q.bo, .int .i64 q.bn, .slice q.bA q.bl q.bc, .slice q.yA q.yl q.yc, .slice q.eA q.el q.ec] 28)) q
          have hgood := good_may goodL[k] (List.getElem_mem hlt)
          have b06 := hb.trans ((bx.trans (by_.mono bx.size)).mono hb.size)
          have hkd6 := HK5.out.below b06 (Nat.le_refl _)
          have hm := k6.may (c := 1) (n := 3) hkd6 (by decide) (by decide) (by simp) (by decide) hgood
          have hzz : (wr.alloc (.cells #[.int .u8 q.k, .int .i64 q.t, .int .u8 q.ao, .int .i64 q.an, .slice q.aA q.al q.ac, .int .u8 q.bo, .int .i64 q.bn, .slice q.bA q.bl q.bc, .slice q.yA q.yl q.yc, .slice q.eA q.el q.ec] 28)).heap.size = wr.heap.size + 1 := by simp
          rw [hzz] at hm
          obtain ⟨qk, qt, qao, qan, qaA, qal, qac, qbo, qbn, qbA, qbl, qbc, qyA, qyl, qyc, qeA, qel, qec⟩ := q
          dsimp only at g0 g1 g2 g3 g4 g5 g6 g7 g8 g9 hm b06
          have HM := Lib.hid hm
          have HB6 := Lib.hid b06
          clear ht hs bx hs2 k6 by_ hgood hkd6 hm hzz m1 b06
          have i1 : (0 : Int) ≤ (k : Int) := by omega
          have i2 : (k : Int) < 8 := by omega
          go_wp2_with fail
          refine HM.out.mono ?_
          rintro r w7 ⟨rfl, b7⟩
          have hbn := HB6.out.trans (b7.mono HB6.out.size)
          have HBN := Lib.hid hbn
          clear hbn b7 HB6 HM g0 g1 g2 g3 g4 g5 g6 g7 g8 g9
          go_wp2_with fail
          go_roundw
          case rel => exact ⟨k + 1, by omega, by go_num, HBN.out⟩
          case measure => simp [intOf]; omega
        · have i3 : ¬ ((k : Int) < 8) := by omega
          clear hk hlt
          go_upto_region 17 with fail
          have d0 := HB.out.trans (hb.mono HB.out.size)
          clear hb HB HK HK5 i3
          obtain ⟨m1, m2, m3, m4, m5, m6, m7, m8, m9⟩ := v_may
          have M := Lib.hid (And.intro m1 (And.intro m2 (And.intro m3 (And.intro m4 (And.intro m5 (And.intro m6 (And.intro m7 (And.intro m8 m9))))))))
          clear m1 m2 m3 m4 m5 m6 m7 m8 m9
          go_wp2_with fail
          refine (may_nil (HKD.out.below d0 (Nat.le_refl _)) 0 true (by decide) (by decide) M.out.1).mono ?_
          rintro z v1 ⟨rfl, e1⟩
          have d1 := d0.trans (e1.mono d0.size)
          clear d0 e1
          go_wp2_with fail
          refine (may_nil (HKD.out.below d1 (Nat.le_refl _)) 6 false (by decide) (by decide) M.out.2.1).mono ?_
          rintro z v2 ⟨rfl, e2⟩
          have d2 := d1.trans (e2.mono d1.size)
          clear d1 e2
          go_wp2_with fail
          refine (may_nil (HKD.out.below d2 (Nat.le_refl _)) (-1) false (by decide) (by decide) M.out.2.2.1).mono ?_
          rintro z v3 ⟨rfl, e3⟩
          have d3 := d2.trans (e3.mono d2.size)
          clear d2 e3
          go_wp2_with fail
          refine (hrd.out v3).mono ?_
          rintro z v4 ⟨rfl, e4⟩
          have d4 := d3.trans (e4.mono d3.size)
          clear d3 e4
          go_wp2_with fail
          refine (nest6 v4).mono ?_
          rintro z v5 ⟨A5, c5, rfl, k5, e5⟩
          have d5 := d4.trans (e5.mono d4.size)
          clear d4 e5
          go_wp2_with fail
          refine (k5.mayN 1 rfl (HKD.out.below d5 (Nat.le_refl _)) (by decide) (by decide) (by decide) (by decide) M.out.2.2.2.1).mono ?_
          rintro z v6 ⟨rfl, e6⟩
          have d6 := d5.trans (e6.mono d5.size)
          clear d5 e6 k5
          go_wp2_with fail
          refine (hrd.out v6).mono ?_
          rintro z v7 ⟨rfl, e7⟩
          have d7 := d6.trans (e7.mono d6.size)
          clear d6 e7
          go_wp2_with fail
          refine (nest7 v7).mono ?_
          rintro z v8 ⟨A8, c8, rfl, k8, e8⟩
          have d8 := d7.trans (e8.mono d7.size)
          clear d7 e8
          go_wp2_with fail
          refine (k8.mayN 1 rfl (HKD.out.below d8 (Nat.le_refl _)) (by decide) (by decide) (by decide) (by decide) M.out.2.2.2.2.1).mono ?_
          rintro z v9 ⟨rfl, e9⟩
          have d9 := d8.trans (e9.mono d8.size)
          clear d8 e9 k8
          go_wp2_with fail
          refine (hrd.out v9).mono ?_
          rintro z v10 ⟨rfl, e10⟩
          have d10 := d9.trans (e10.mono d9.size)
          clear d9 e10
          go_wp2_with fail
          refine (many40 v10).mono ?_
          rintro z v11 ⟨A11, c11, rfl, k11, e11⟩
          have d11 := d10.trans (e11.mono d10.size)
          clear d10 e11
          go_wp2_with fail
          refine (k11.mayN 40 rfl (HKD.out.below d11 (Nat.le_refl _)) (by decide) (by decide) (by decide) (by decide) M.out.2.2.2.2.2.1).mono ?_
          rintro z v12 ⟨rfl, e12⟩
          have d12 := d11.trans (e12.mono d11.size)
          clear d11 e12 k11
          go_wp2_with fail
          refine (hrd.out v12).mono ?_
          rintro z v13 ⟨rfl, e13⟩
          have d13 := d12.trans (e13.mono d12.size)
          clear d12 e13
          go_wp2_with fail
          refine (many41 v13).mono ?_
          rintro z v14 ⟨A14, c14, rfl, k14, e14⟩
          have d14 := d13.trans (e14.mono d13.size)
          clear d13 e14
          go_wp2_with fail
          refine (k14.mayN 41 rfl (HKD.out.below d14 (Nat.le_refl _)) (by decide) (by decide) (by decide) (by decide) M.out.2.2.2.2.2.2.1).mono ?_
          rintro z v15 ⟨rfl, e15⟩
          have d15 := d14.trans (e15.mono d14.size)
          clear d14 e15 k14
          go_wp2_with fail
          refine (hrd.out v15).mono ?_
          rintro z v16 ⟨rfl, e16⟩
          have d16 := d15.trans (e16.mono d15.size)
          clear d15 e16
          go_wp2_with fail
          refine (many3 v16).mono ?_
          rintro z v17 ⟨A17, c17, rfl, k17, e17⟩
          have d17 := d16.trans (e17.mono d16.size)
          clear d16 e17
          go_wp2_with fail
          refine (hrd.out v17).mono ?_
          rintro z v18 ⟨rfl, e18⟩
          have d18 := d17.trans (e18.mono d17.size)
          have k3a := k17.below e18
          clear k17
          clear d17 e18
          go_wp2_with fail
          refine (many2 v18).mono ?_
          rintro z v19 ⟨A19, c19, rfl, k19, e19⟩
          have d19 := d18.trans (e19.mono d18.size)
          have k3b := k3a.below e19
          clear k3a
          clear d18 e19
          go_upto_region 21 with fail
          have sb : SA v19 3 ⟨7, 0, 0, 0, none, 0, 0, 0, 0, none, 0, 0, A17, 3, c17, A19, 2, c19⟩ (.node 7 0 eNo eNo (List.replicate 3 sRead) (List.replicate 2 sRead)) := SA.mk ⟨rfl, rfl, rfl, rfl⟩ (by decide) (at_no _ _ _ _) (at_no _ _ _ _) k3b k19
          have kb := SK.one sb
          have bb := ten_below v19 ⟨7, 0, 0, 0, none, 0, 0, 0, 0, none, 0, 0, A17, 3, c17, A19, 2, c19⟩
          dsimp only at kb bb
          obtain ⟨v20, hv20⟩ : ∃ X, X = v19.alloc (.cells #[.int .u8 7, .int .i64 0, .int .u8 0, .int .i64 0, .slice none 0 0, .int .u8 0, .int .i64 0, .slice none 0 0, .slice A17 3 c17, .slice A19 2 c19] 28) := ⟨_, rfl⟩
          have kb : SK v20 3 (some ⟨v19.heap.size, 0, none⟩) bothT := by rw [hv20]; exact kb
          have bb : Below v19.heap.size v19 v20 := by rw [hv20]; exact bb
          have d20 := d19.trans (bb.mono d19.size)
          rw [← hv20]
          clear hv20 sb bb d19 k3b k19
          obtain ⟨G8, hG8⟩ : ∃ G, G = v19.heap.size := ⟨_, rfl⟩
          rw [← hG8] at kb ⊢
          clear hG8
          go_wp2_with fail
          refine (clit_any 1 v20).mono ?_
          rintro z v21 ⟨rfl, e21⟩
          have d21 := d20.trans (e21.mono d20.size)
          replace kb := kb.below e21
          clear d20 e21
          go_wp2_with fail
          refine (hrd.out v21).mono ?_
          rintro z v22 ⟨rfl, e22⟩
          have d22 := d21.trans (e22.mono d21.size)
          replace kb := kb.below e22
          clear d21 e22
          go_wp2_with fail
          refine (many3 v22).mono ?_
          rintro z v23 ⟨A23, c23, rfl, k23, e23⟩
          have d23 := d22.trans (e23.mono d22.size)
          replace kb := kb.below e23
          clear d22 e23
          have k3a := k23
          clear k23
          go_wp2_with fail
          refine (hrd.out v23).mono ?_
          rintro z v24 ⟨rfl, e24⟩
          have d24 := d23.trans (e24.mono d23.size)
          replace kb := kb.below e24
          replace k3a := k3a.below e24
          clear d23 e24
          go_wp2_with fail
          refine (many2 v24).mono ?_
          rintro z v25 ⟨A25, c25, rfl, k25, e25⟩
          have d25 := d24.trans (e25.mono d24.size)
          replace kb := kb.below e25
          replace k3a := k3a.below e25
          clear d24 e25
          go_upto_region 22 with fail
          have sb : SA v25 3 ⟨4, 0, 1, 1, none, 0, 0, 0, 0, none, 0, 0, A23, 3, c23, A25, 2, c25⟩ (.node 4 0 (eLit 1) eNo (List.replicate 3 sRead) (List.replicate 2 sRead)) := SA.mk ⟨rfl, rfl, rfl, rfl⟩ (by decide) (at_lit _ _ _ _ 1 (by decide) (by decide)) (at_no _ _ _ _) k3a k25
          have ke := SK.one sb
          have bb := ten_below v25 ⟨4, 0, 1, 1, none, 0, 0, 0, 0, none, 0, 0, A23, 3, c23, A25, 2, c25⟩
          dsimp only at ke bb
          obtain ⟨v26, hv⟩ : ∃ X, X = v25.alloc (.cells #[.int .u8 4, .int .i64 0, .int .u8 1, .int .i64 1, .slice none 0 0, .int .u8 0, .int .i64 0, .slice none 0 0, .slice A23 3 c23, .slice A25 2 c25] 28) := ⟨_, rfl⟩
          have ke : SK v26 3 (some ⟨v25.heap.size, 0, none⟩) eitherT := by rw [hv]; exact ke
          have bb : Below v25.heap.size v25 v26 := by rw [hv]; exact bb
          have d26 := d25.trans (bb.mono d25.size)
          replace kb := kb.below bb
          rw [← hv]
          clear hv sb bb d25 k3a k25
          obtain ⟨G9, hG9⟩ : ∃ G, G = v25.heap.size := ⟨_, rfl⟩
          rw [← hG9] at ke ⊢
          clear hG9
          go_wp2_with fail
          refine (deep3 v26).mono ?_
          rintro z v27 ⟨A27, c27, rfl, k27, e27⟩
          have d27 := d26.trans (e27.mono d26.size)
          replace kb := kb.below e27
          replace ke := ke.below e27
          clear d26 e27
          go_wp2_with fail
          refine (k27.costN 1 1609 rfl (by decide) v_cost.1).mono ?_
          rintro z v28 ⟨rfl, e28⟩
          have d28 := d27.trans (e28.mono d27.size)
          replace kb := kb.below e28
          replace ke := ke.below e28
          clear d27 e28 k27
          go_wp2_with fail
          refine (deep3 v28).mono ?_
          rintro z v29 ⟨A29, c29, rfl, k29, e29⟩
          have d29 := d28.trans (e29.mono d28.size)
          replace kb := kb.below e29
          replace ke := ke.below e29
          clear d28 e29
          go_wp2_with fail
          refine (k29.mayN 1 rfl (HKD.out.below d29 (Nat.le_refl _)) (by decide) (by decide) (by decide) (by decide) M.out.2.2.2.2.2.2.2.1).mono ?_
          rintro z v30 ⟨rfl, e30⟩
          have d30 := d29.trans (e30.mono d29.size)
          replace kb := kb.below e30
          replace ke := ke.below e30
          clear d29 e30 k29
          go_wp2_with fail
          refine (deep4 v30).mono ?_
          rintro z v31 ⟨A31, c31, rfl, k31, e31⟩
          have d31 := d30.trans (e31.mono d30.size)
          replace kb := kb.below e31
          replace ke := ke.below e31
          clear d30 e31
          go_wp2_with fail
          refine (k31.costN 1 2001 rfl (by decide) v_cost.2.1).mono ?_
          rintro z v32 ⟨rfl, e32⟩
          have d32 := d31.trans (e32.mono d31.size)
          replace kb := kb.below e32
          replace ke := ke.below e32
          clear d31 e32 k31
          go_wp2_with fail
          refine (deep4 v32).mono ?_
          rintro z v33 ⟨A33, c33, rfl, k33, e33⟩
          have d33 := d32.trans (e33.mono d32.size)
          replace kb := kb.below e33
          replace ke := ke.below e33
          clear d32 e33
          go_wp2_with fail
          refine (k33.mayN 1 rfl (HKD.out.below d33 (Nat.le_refl _)) (by decide) (by decide) (by decide) (by decide) M.out.2.2.2.2.2.2.2.2).mono ?_
          rintro z v34 ⟨rfl, e34⟩
          have d34 := d33.trans (e34.mono d33.size)
          replace kb := kb.below e34
          replace ke := ke.below e34
          clear d33 e34 k33
          go_wp2_with fail
          refine (kb.costN 1 6 rfl (by decide) v_cost.2.2.1).mono ?_
          rintro z v35 ⟨rfl, e35⟩
          have d35 := d34.trans (e35.mono d34.size)
          replace kb := kb.below e35
          replace ke := ke.below e35
          clear d34 e35
          go_wp2_with fail
          refine (ke.costN 1 4 rfl (by decide) v_cost.2.2.2).mono ?_
          rintro z v36 ⟨rfl, e36⟩
          have d36 := d35.trans (e36.mono d35.size)
          replace kb := kb.below e36
          replace ke := ke.below e36
          clear d35 e36
          go_wp2_with fail
          refine (cost_nil v36).mono ?_
          rintro z v37 ⟨rfl, e37⟩
          have d37 := d36.trans (e37.mono d36.size)
          replace kb := kb.below e37
          replace ke := ke.below e37
          clear d36 e37
          go_wp2_with fail
          refine (depth_nil v37).mono ?_
          rintro z v38 ⟨rfl, e38⟩
          have d38 := d37.trans (e38.mono d37.size)
          replace kb := kb.below e38
          replace ke := ke.below e38
          clear d37 e38
          go_wp2_with fail
          refine (copyBoth kb).mono ?_
          rintro z v39 ⟨A39, c39, rfl, k39, e39⟩
          have d39 := d38.trans (e39.mono d38.size)
          replace kb := kb.below e39
          replace ke := ke.below e39
          clear d38 e39
          go_wp2_with fail
          refine (SK.sameN 1 1 kb k39 rfl rfl (by decide) (by decide) v_same.1).mono ?_
          rintro z v40 ⟨rfl, e40⟩
          have d40 := d39.trans (e40.mono d39.size)
          replace kb := kb.below e40
          replace ke := ke.below e40
          clear d39 e40 k39
          go_wp2_with fail
          refine (SK.sameN 1 1 kb ke rfl rfl (by decide) (by decide) v_same.2).mono ?_
          rintro z v41 ⟨rfl, e41⟩
          have d41 := d40.trans (e41.mono d40.size)
          replace kb := kb.below e41
          replace ke := ke.below e41
          clear d40 e41
          go_wp2_with fail
          go_ret
          exact ⟨rfl, d41⟩
end Go.Proofs.YtfnbffkiddofnaaDoor
