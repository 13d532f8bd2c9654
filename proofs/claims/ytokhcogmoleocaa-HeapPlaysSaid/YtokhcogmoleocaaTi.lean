/-
  seesawlaw11.like: a heap and the document's own, of the same numbers, are alike. Laid by gen/gen_ti.py. Conditions: as they stand.
-/
import Derived.Test.YtokhcogmoleocaaTh
namespace Go.Proofs.Ytokhcogmoleocaa
set_option maxRecDepth 100000
open Go.RowKit Go.Deep
set_option linter.unusedVariables false
theorem cons_ofT {us : List Value} {n : Nat} (h : us.length = n + 1) : ∃ z r, us = z :: r ∧ r.length = n := by
  cases us with
  | nil => simp at h
  | cons z r => exact ⟨z, r, rfl, by simpa using h⟩
theorem list46 {us : List Value} (h : us.length = 46) : ∃ z0 z1 z2 z3 z4 z5 z6 z7 z8 z9 z10 z11 z12 z13 z14 z15 z16 z17 z18 z19 z20 z21 z22 z23 z24 z25 z26 z27 z28 z29 z30 z31 z32 z33 z34 z35 z36 z37 z38 z39 z40 z41 z42 z43 z44 z45 : Value, us = [z0, z1, z2, z3, z4, z5, z6, z7, z8, z9, z10, z11, z12, z13, z14, z15, z16, z17, z18, z19, z20, z21, z22, z23, z24, z25, z26, z27, z28, z29, z30, z31, z32, z33, z34, z35, z36, z37, z38, z39, z40, z41, z42, z43, z44, z45] := by
  obtain ⟨z0, r0, rfl, h0⟩ := cons_ofT h
  obtain ⟨z1, r1, rfl, h1⟩ := cons_ofT h0
  obtain ⟨z2, r2, rfl, h2⟩ := cons_ofT h1
  obtain ⟨z3, r3, rfl, h3⟩ := cons_ofT h2
  obtain ⟨z4, r4, rfl, h4⟩ := cons_ofT h3
  obtain ⟨z5, r5, rfl, h5⟩ := cons_ofT h4
  obtain ⟨z6, r6, rfl, h6⟩ := cons_ofT h5
  obtain ⟨z7, r7, rfl, h7⟩ := cons_ofT h6
  obtain ⟨z8, r8, rfl, h8⟩ := cons_ofT h7
  obtain ⟨z9, r9, rfl, h9⟩ := cons_ofT h8
  obtain ⟨z10, r10, rfl, h10⟩ := cons_ofT h9
  obtain ⟨z11, r11, rfl, h11⟩ := cons_ofT h10
  obtain ⟨z12, r12, rfl, h12⟩ := cons_ofT h11
  obtain ⟨z13, r13, rfl, h13⟩ := cons_ofT h12
  obtain ⟨z14, r14, rfl, h14⟩ := cons_ofT h13
  obtain ⟨z15, r15, rfl, h15⟩ := cons_ofT h14
  obtain ⟨z16, r16, rfl, h16⟩ := cons_ofT h15
  obtain ⟨z17, r17, rfl, h17⟩ := cons_ofT h16
  obtain ⟨z18, r18, rfl, h18⟩ := cons_ofT h17
  obtain ⟨z19, r19, rfl, h19⟩ := cons_ofT h18
  obtain ⟨z20, r20, rfl, h20⟩ := cons_ofT h19
  obtain ⟨z21, r21, rfl, h21⟩ := cons_ofT h20
  obtain ⟨z22, r22, rfl, h22⟩ := cons_ofT h21
  obtain ⟨z23, r23, rfl, h23⟩ := cons_ofT h22
  obtain ⟨z24, r24, rfl, h24⟩ := cons_ofT h23
  obtain ⟨z25, r25, rfl, h25⟩ := cons_ofT h24
  obtain ⟨z26, r26, rfl, h26⟩ := cons_ofT h25
  obtain ⟨z27, r27, rfl, h27⟩ := cons_ofT h26
  obtain ⟨z28, r28, rfl, h28⟩ := cons_ofT h27
  obtain ⟨z29, r29, rfl, h29⟩ := cons_ofT h28
  obtain ⟨z30, r30, rfl, h30⟩ := cons_ofT h29
  obtain ⟨z31, r31, rfl, h31⟩ := cons_ofT h30
  obtain ⟨z32, r32, rfl, h32⟩ := cons_ofT h31
  obtain ⟨z33, r33, rfl, h33⟩ := cons_ofT h32
  obtain ⟨z34, r34, rfl, h34⟩ := cons_ofT h33
  obtain ⟨z35, r35, rfl, h35⟩ := cons_ofT h34
  obtain ⟨z36, r36, rfl, h36⟩ := cons_ofT h35
  obtain ⟨z37, r37, rfl, h37⟩ := cons_ofT h36
  obtain ⟨z38, r38, rfl, h38⟩ := cons_ofT h37
  obtain ⟨z39, r39, rfl, h39⟩ := cons_ofT h38
  obtain ⟨z40, r40, rfl, h40⟩ := cons_ofT h39
  obtain ⟨z41, r41, rfl, h41⟩ := cons_ofT h40
  obtain ⟨z42, r42, rfl, h42⟩ := cons_ofT h41
  obtain ⟨z43, r43, rfl, h43⟩ := cons_ofT h42
  obtain ⟨z44, r44, rfl, h44⟩ := cons_ofT h43
  obtain ⟨z45, r45, rfl, h45⟩ := cons_ofT h44
  obtain rfl := List.length_eq_zero_iff.1 h45
  exact ⟨z0, z1, z2, z3, z4, z5, z6, z7, z8, z9, z10, z11, z12, z13, z14, z15, z16, z17, z18, z19, z20, z21, z22, z23, z24, z25, z26, z27, z28, z29, z30, z31, z32, z33, z34, z35, z36, z37, z38, z39, z40, z41, z42, z43, z44, z45, rfl⟩
set_option maxHeartbeats 16000000 in
set_option maxRecDepth 100000 in
theorem like_any {w : World} {g q lo : Nat} {c : Nat → Int} (h : HeapAt w g c) (hr : RefH w q lo c) (hb : HB c) : Calls Try.prog 32 #[.pointer (some ⟨g, 0, none⟩), .pointer (some ⟨q, 0, none⟩)] w fun e w' => e = .returned (.bool true) ∧ Below w.heap.size w w' := by
  obtain ⟨n, m, X, Y, Z, cx, cy, cz, o⟩ := hr.opn hb
  have OK : Hid (PLok { w0 := w, g := g, q := q, lo := lo, c := c, n := n, m := m, X := X, Y := Y, Z := Z, cx := cx, cy := cy, cz := cz }) := ⟨h, o, hb⟩
  have HO := Lib.hid o
  have HH := Lib.hid h
  have HR := Lib.hid hr
  have HB0 := Lib.hid hb
  have hm32 := o.m32
  have hnm := o.nm
  have hn1 := o.n1
  have lo1 := ownersL_len n o.e0
  have lv1 := versionsL_len n o.e0
  clear h hr hb o
  go_enter Try.func32, Try.ntmps32
  go_upto_region 1 with fail
  refine regLike (by kernel_rfl) _ (by show 55 ≤ 149; decide) w _ OK.out rfl rfl (Below.refl _ _) ?_
  intro us w1 hus h45 b1
  have B1 : Hid (Below w.heap.size w w1) := b1
  obtain ⟨z0, z1, z2, z3, z4, z5, z6, z7, z8, z9, z10, z11, z12, z13, z14, z15, z16, z17, z18, z19, z20, z21, z22, z23, z24, z25, z26, z27, z28, z29, z30, z31, z32, z33, z34, z35, z36, z37, z38, z39, z40, z41, z42, z43, z44, z45, rfl⟩ := list46 hus
  obtain rfl : z45 = .bool false := h45
  clear hus b1 OK
  simp only [fr, List.take_succ_cons, List.take_zero, List.drop_succ_cons, List.drop_zero, List.cons_append, List.nil_append]
  go_wp2_with fail
  refine (owners_any (HH.out.below B1.out HH.out.lt) HB0.out).mono ?_
  rintro e w2 ⟨A2, c2, rfl, hI2, _, b2⟩
  have B2 := Lib.hid (B1.out.trans (b2.mono B1.out.size))
  have I2 := Lib.hid hI2
  rw [lo1]
  clear hI2 b2
  dsimp only
  go_wp2_with fail
  refine (versions_any (HH.out.below B2.out HH.out.lt) HB0.out).mono ?_
  rintro e w3 ⟨A3, c3, rfl, hI3, _, b3⟩
  have B3 := Lib.hid (B2.out.trans (b3.mono B2.out.size))
  have I2' := Lib.hid (ints_up11 (I2.out.below b3 (Nat.le_refl _)) b3.size)
  have I3 := Lib.hid hI3
  rw [lv1]
  have O3 : Hid (Opn w3 q lo c n m X Y Z cx cy cz) := ⟨HO.out.e0, HO.out.e67, HO.out.n1, HO.out.nm, HO.out.m32, (B3.out.block q HR.out.lt).trans HO.out.row, HO.out.x.below B3.out, HO.out.y.below B3.out, HO.out.z.below B3.out⟩
  have s1 := O3.out.cell 1
  simp at s1
  clear hI3 b3 I2 B1 B2
  dsimp only
  go_wp2_with fail
  have HW3 : Hid (q < w3.heap.size) := O3.out.ref.lt
  go_loopw [7] (fun i wr => ∃ k : Nat, k ≤ n ∧ i = .int .i64 k ∧ Hid (Below w3.heap.size w3 wr)) (fun i _ => n - (intOf i).toNat)
  case atStart => exact ⟨0, by omega, by go_num, Below.refl _ _⟩
  case round =>
    obtain ⟨k, hk, rfl, hB⟩ := hrel
    by_cases hlt : k < n
    · obtain ⟨p1, rfl, m1, d1⟩ := I2'.out.cell k (by omega)
      obtain ⟨p2, rfl, m2, d2⟩ := I3.out.cell k (by omega)
      obtain ⟨p3, hp3, d3⟩ := O3.out.atY hlt
      obtain ⟨p4, hp4, d4⟩ := O3.out.atZ hlt
      have y3 := ((O3.out.y.ints.cell k (by omega)))
      have y4 := ((O3.out.z.ints.cell k (by omega)))
      subst hp3 hp4
      have m3 : (p3.add k).block < w3.heap.size := by obtain ⟨p, e, m9, _⟩ := y3; cases e; rw [ad_block]; exact m9
      have m4 : (p4.add k).block < w3.heap.size := by obtain ⟨p, e, m9, _⟩ := y4; cases e; rw [ad_block]; exact m9
      have f1 := (hB.out.cell (p := p1.add k) (by rw [ad_block]; exact m1)).trans d1
      have f2 := (hB.out.cell (p := p2.add k) (by rw [ad_block]; exact m2)).trans d2
      have f3 := (hB.out.cell (p := p3.add k) m3).trans d3
      have f4 := (hB.out.cell (p := p4.add k) m4).trans d4
      have s1 := (hB.out.cell (p := ⟨q, 1, none⟩) HW3.out).trans (O3.out.cell 1)
      have s2 := (hB.out.cell (p := ⟨q, 2, none⟩) HW3.out).trans (O3.out.cell 2)
      simp at s1 s2
      rw [show (ownersL c)[k]'(by omega) = c (1 + k) by simp [ownersL]] at f1
      rw [show (versionsL c)[k]'(by omega) = c (33 + k) by simp [versionsL]] at f2
      obtain ⟨u, hu⟩ : ∃ u, u = c (1 + k) := ⟨_, rfl⟩
      obtain ⟨v, hv⟩ : ∃ v, v = c (33 + k) := ⟨_, rfl⟩
      rw [← hu] at f1 f3
      rw [← hv] at f2 f4
      have i0 : (0 : Int) ≤ (k : Int) := by omega
      have i1 : (k : Int) < (n : Int) := by omega
      have n1 : (u != u) = false := bne_eq_false_iff_eq.2 rfl
      have n2 : (v != v) = false := bne_eq_false_iff_eq.2 rfl
      clear d1 d2 d3 d4 m1 m2 m3 m4 y3 y4 hu hv
      go_wp2_with fail
      go_quiet (fail)
      go_wp2_with fail
      go_roundw
      case rel => exact ⟨k + 1, by omega, by go_num, hB.out.trans ((drewN_below2 wr _).mono hB.out.size)⟩
      case measure => simp [intOf]; omega
    · clear s1
      have i1 : ¬ (k : Int) < (n : Int) := by omega
      go_wp2_with fail
      have HBR := Lib.hid (B3.out.trans (hB.out.mono B3.out.size))
      have H4 := Lib.hid (HH.out.below HBR.out HH.out.lt)
      have R4 := Lib.hid (HR.out.below HBR.out)
      go_loopw [8] (fun i wr' => ∃ j : Int, -1 ≤ j ∧ j ≤ (m : Int) + 1 ∧ i = .int .i64 j ∧ wr = wr') (fun i _ => ((m : Int) + 1 - intOf i).toNat)
      case atStart => exact ⟨-1, by omega, by omega, rfl, rfl⟩
      case round =>
        obtain ⟨j, hj1, hj2, rfl, rfl⟩ := hrel
        have VV := vars_any H4.out
        rw [HO.out.e67] at VV
        by_cases hlt : j ≤ (m : Int)
        · have w1 : wrap64 (j + 1) = j + 1 := by unfold wrap64; omega
          go_wp2_with fail
          refine VV.mono ?_
          rintro e w' ⟨rfl, rfl⟩
          dsimp only
          go_wp2_with fail
          refine (value_any H4.out HB0.out j).mono ?_
          rintro e w' ⟨rfl, rfl⟩
          dsimp only
          go_wp2_with fail
          refine (rvalue_any R4.out HB0.out j).mono ?_
          rintro e w' ⟨rfl, rfl⟩
          generalize valueF c j = x1
          have n1 : (x1 != x1) = false := bne_eq_false_iff_eq.2 rfl
          dsimp only
          go_wp2_with fail
          refine (stripe_any H4.out HB0.out j).mono ?_
          rintro e w' ⟨rfl, rfl⟩
          dsimp only
          go_wp2_with fail
          refine (rstripe_any R4.out HB0.out j).mono ?_
          rintro e w' ⟨rfl, rfl⟩
          generalize stripeF c j = x2
          have n2 : (x2 != x2) = false := bne_eq_false_iff_eq.2 rfl
          dsimp only
          go_wp2_with fail
          refine (howner_any H4.out HB0.out j).mono ?_
          rintro e w' ⟨rfl, rfl⟩
          dsimp only
          go_wp2_with fail
          refine (rowner_any R4.out HB0.out j).mono ?_
          rintro e w' ⟨rfl, rfl⟩
          generalize ownerF c j = x3
          have n3 : (x3 != x3) = false := bne_eq_false_iff_eq.2 rfl
          dsimp only
          go_wp2_with fail
          refine (hversion_any H4.out HB0.out j).mono ?_
          rintro e w' ⟨rfl, rfl⟩
          dsimp only
          go_wp2_with fail
          refine (rversion_any R4.out HB0.out j).mono ?_
          rintro e w' ⟨rfl, rfl⟩
          generalize versionF c j = x4
          have n4 : (x4 != x4) = false := bne_eq_false_iff_eq.2 rfl
          dsimp only
          go_wp2_with fail
          go_roundw
          case rel => exact ⟨j + 1, by omega, by omega, by go_num, trivial⟩
          case measure => simp [intOf]; omega
        · go_wp2_with fail
          refine VV.mono ?_
          rintro e w' ⟨rfl, rfl⟩
          dsimp only
          go_wp2_with fail
          go_ret
          exact ⟨rfl, HBR.out⟩
end Go.Proofs.Ytokhcogmoleocaa
