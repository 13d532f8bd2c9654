/-
  CONTRACT OF seesawref12.May: whether an event may be, by the same plain function as package event's. Conditions: as they stand.
-/
import Derived.Test.YtfbnigikofidoaaDoorWz
namespace Go.Proofs.YtfbnigikofidoaaDoor
set_option maxRecDepth 100000
open Go.RowKit
set_option linter.unusedVariables false
theorem may_need {e : Ev} {T V S : Int} (h : mayB e T V S = true) : (1 ≤ T ∧ T ≤ 6 ∧ 1 ≤ V ∧ V ≤ 32 ∧ 1 ≤ S ∧ S ≤ V) ∧ (1 ≤ e.kd ∧ e.kd ≤ 13) ∧ (0 ≤ e.th ∧ e.th < T) ∧ bareF e = e ∧ (0 ≤ e.tx ∧ e.tx < 6) ∧ (0 ≤ e.v ∧ e.v ≤ 1099511627776) ∧ 0 ≤ e.pl := by
  rw [may_iff] at h
  obtain ⟨h1, h2, h3⟩ := h
  simp only [sizesB, Bool.and_eq_true, decide_eq_true_eq] at h1
  refine ⟨by omega, ?_, by omega, ?_, ?_, ?_, ?_⟩
  · clear h1 h2
    unfold MayK at h3
    rcases h3 with h | h | h | h | h | h | h | h <;> omega
  · clear h1 h2
    obtain ⟨kd, th, tx, pl, v, x, why⟩ := e
    unfold MayK at h3
    simp only at h3
    rcases h3 with ⟨rfl, _, rfl, _, rfl, rfl⟩ | ⟨rfl, rfl, _, _, rfl, rfl⟩ | ⟨rfl | rfl, rfl, _, rfl, _, rfl⟩ | ⟨rfl | rfl | rfl | rfl, rfl, _, rfl, rfl, rfl⟩ | ⟨rfl, rfl, rfl, _, rfl, rfl⟩ | ⟨rfl, rfl, rfl, _, rfl, rfl⟩ | ⟨rfl, rfl, _, rfl, rfl, _, _⟩ | ⟨rfl | rfl, rfl, rfl, rfl, rfl, rfl⟩ <;> rfl
  · clear h1 h2
    unfold MayK at h3
    rcases h3 with h | h | h | h | h | h | h | h <;> omega
  · clear h1 h2
    unfold MayK at h3
    rcases h3 with h | h | h | h | h | h | h | h <;> omega
  · clear h1 h2
    unfold MayK at h3
    rcases h3 with h | h | h | h | h | h | h | h <;> omega
def finB (e : Ev) (V S : Int) : Bool := if e.kd = 3 ∨ e.kd = 8 then decide (e.pl < V) else if e.kd = 5 then decide (1 ≤ e.v) else if e.kd = 10 then (decide (1 ≤ e.why) && (decide (e.why ≤ 6) && (decide (e.pl < S) && (e.why != 6 || e.pl == 0)))) else decide (e.pl < S)
theorem may_final {e : Ev} (ok : EvOk e) {T V S : Int} (h1 : 1 ≤ T ∧ T ≤ 6 ∧ 1 ≤ V ∧ V ≤ 32 ∧ 1 ≤ S ∧ S ≤ V) (h2 : 1 ≤ e.kd ∧ e.kd ≤ 13) (h3 : 0 ≤ e.th ∧ e.th < T) (h4 : bareF e = e) (h5 : 0 ≤ e.tx ∧ e.tx < 6) (h6 : 0 ≤ e.v ∧ e.v ≤ 1099511627776) (h7 : 0 ≤ e.pl) : mayB e T V S = finB e V S := by
  have hx0 := ok.y0
  have hx1 := ok.y1
  clear ok
  have hs : sizesB T V S = true := by simp only [sizesB, Bool.and_eq_true, decide_eq_true_eq]; omega
  rw [Bool.eq_iff_iff, may_iff]
  obtain ⟨kd, th, tx, pl, v, x, why⟩ := e
  simp only at h2 h3 h5 h6 h7 hx0 hx1
  have hth : 0 ≤ th ∧ th ≤ T - 1 := by omega
  simp only [hs, hth, true_and, and_self]
  clear hs hth h3
  have hk : kd = 1 ∨ kd = 2 ∨ kd = 3 ∨ kd = 4 ∨ kd = 5 ∨ kd = 6 ∨ kd = 7 ∨ kd = 8 ∨ kd = 9 ∨ kd = 10 ∨ kd = 11 ∨ kd = 12 ∨ kd = 13 := by omega
  rcases hk with rfl | rfl | rfl | rfl | rfl | rfl | rfl | rfl | rfl | rfl | rfl | rfl | rfl <;>
    (simp [bareF] at h4; simp [MayK, finB]; omega)
theorem nm_full {k : Nat} (h1 : 1 ≤ k) (h2 : k ≤ 13) : (bsW (nmL k)).toList.isEmpty = false := by
  rw [ByteArray.toList_eq, bsW_list]
  have : k = 1 ∨ k = 2 ∨ k = 3 ∨ k = 4 ∨ k = 5 ∨ k = 6 ∨ k = 7 ∨ k = 8 ∨ k = 9 ∨ k = 10 ∨ k = 11 ∨ k = 12 ∨ k = 13 := by omega
  rcases this with rfl | rfl | rfl | rfl | rfl | rfl | rfl | rfl | rfl | rfl | rfl | rfl | rfl <;> rfl
theorem nm_none {k : Nat} (h : ¬ (1 ≤ k ∧ k ≤ 13)) : (bsW (nmL k)).toList.isEmpty = true := by
  rw [ByteArray.toList_eq, bsW_list]
  by_cases h0 : k = 0
  · subst h0; rfl
  · rw [nmL_none (by omega)]; rfl
theorem ev_neq {d e : Ev} (h : d ≠ e) : (!(d.kd == e.kd && (d.th == e.th && (d.tx == e.tx && (d.pl == e.pl && (d.v == e.v && (d.x == e.x && d.why == e.why))))))) = true := by
  rw [Bool.not_eq_true']
  rw [Bool.eq_false_iff]
  intro hh
  simp only [Bool.and_eq_true, beq_iff_eq] at hh
  obtain ⟨a, b, c, f, g, i, j⟩ := hh
  cases d; cases e
  simp only at a b c f g i j
  exact h (by rw [a, b, c, f, g, i, j])
theorem ev_eq (e : Ev) : (!(e.kd == e.kd && (e.th == e.th && (e.tx == e.tx && (e.pl == e.pl && (e.v == e.v && (e.x == e.x && e.why == e.why))))))) = false := by simp
set_option maxHeartbeats 4000000 in
theorem rmay_no (e : Ev) (T V S : Int) (h : ¬ (1 ≤ T ∧ T ≤ 6 ∧ 1 ≤ V ∧ V ≤ 32 ∧ 1 ≤ S ∧ S ≤ V)) (w : World) :
    Calls Tryd.prog 16 #[evV e, .int .i64 T, .int .i64 V, .int .i64 S] w fun r w' => r = .returned (.bool false) ∧ Below w.heap.size w w' := by
  obtain ⟨kd, th, tx, pl, v, x, why⟩ := e
  unfold evV
  simp only
  by_cases d1 : T < 1
  · clear h
    go_enter Tryd.func16, Tryd.ntmps16
    go_wp2_with fail
    go_ret
    exact ⟨rfl, (Below.refl _ _).alloc (Nat.le_refl _) _⟩
  · skip
    by_cases d2 : 6 < T
    · clear h
      have e1 : decide (T < 1) = false := decide_eq_false d1
      go_enter Tryd.func16, Tryd.ntmps16
      go_wp2_with fail
      go_ret
      exact ⟨rfl, (Below.refl _ _).alloc (Nat.le_refl _) _⟩
    · skip
      by_cases d3 : V < 1
      · clear h
        have e1 : decide (T < 1) = false := decide_eq_false d1
        have e2 : decide (6 < T) = false := decide_eq_false d2
        go_enter Tryd.func16, Tryd.ntmps16
        go_wp2_with fail
        go_ret
        exact ⟨rfl, (Below.refl _ _).alloc (Nat.le_refl _) _⟩
      · skip
        by_cases d4 : 32 < V
        · clear h
          have e1 : decide (T < 1) = false := decide_eq_false d1
          have e2 : decide (6 < T) = false := decide_eq_false d2
          have e3 : decide (V < 1) = false := decide_eq_false d3
          go_enter Tryd.func16, Tryd.ntmps16
          go_wp2_with fail
          go_ret
          exact ⟨rfl, (Below.refl _ _).alloc (Nat.le_refl _) _⟩
        · skip
          by_cases d5 : S < 1
          · clear h
            have e1 : decide (T < 1) = false := decide_eq_false d1
            have e2 : decide (6 < T) = false := decide_eq_false d2
            have e3 : decide (V < 1) = false := decide_eq_false d3
            have e4 : decide (32 < V) = false := decide_eq_false d4
            go_enter Tryd.func16, Tryd.ntmps16
            go_wp2_with fail
            go_ret
            exact ⟨rfl, (Below.refl _ _).alloc (Nat.le_refl _) _⟩
          · skip
            by_cases d6 : V < S
            · clear h
              have e1 : decide (T < 1) = false := decide_eq_false d1
              have e2 : decide (6 < T) = false := decide_eq_false d2
              have e3 : decide (V < 1) = false := decide_eq_false d3
              have e4 : decide (32 < V) = false := decide_eq_false d4
              have e5 : decide (S < 1) = false := decide_eq_false d5
              go_enter Tryd.func16, Tryd.ntmps16
              go_wp2_with fail
              go_ret
              exact ⟨rfl, (Below.refl _ _).alloc (Nat.le_refl _) _⟩
            · exact absurd ⟨by omega, by omega, by omega, by omega, by omega, by omega⟩ h
set_option maxHeartbeats 8000000 in
theorem rmay_yes (e : Ev) (ok : EvOk e) (T V S : Int) (hs : 1 ≤ T ∧ T ≤ 6 ∧ 1 ≤ V ∧ V ≤ 32 ∧ 1 ≤ S ∧ S ≤ V) (w : World) (he : Er w) :
    Calls Tryd.prog 16 #[evV e, .int .i64 T, .int .i64 V, .int .i64 S] w fun r w' => r = .returned (.bool (mayB e T V S)) ∧ Below w.heap.size w w' := by
  obtain ⟨R, hR⟩ : ∃ R, R = mayB e T V S := ⟨_, rfl⟩
  rw [← hR]
  have HNO : Hid (¬ ((1 ≤ e.kd ∧ e.kd ≤ 13) ∧ (0 ≤ e.th ∧ e.th < T) ∧ bareF e = e ∧ (0 ≤ e.tx ∧ e.tx < 6) ∧ (0 ≤ e.v ∧ e.v ≤ 1099511627776) ∧ 0 ≤ e.pl) → R = false) := fun h => by
    rw [hR]
    exact Bool.eq_false_iff.2 fun hm => h (may_need hm).2
  have HYES : Hid ((1 ≤ e.kd ∧ e.kd ≤ 13) → (0 ≤ e.th ∧ e.th < T) → bareF e = e → (0 ≤ e.tx ∧ e.tx < 6) → (0 ≤ e.v ∧ e.v ≤ 1099511627776) → 0 ≤ e.pl → R = finB e V S) := fun a b c d f g => by
    rw [hR]
    exact may_final ok hs a b c d f g
  have k0 := ok.k0
  have k1 := ok.k1
  have w0 := ok.w0
  have w1 := ok.w1
  obtain ⟨s1, s2, s3, s4, s5, s6⟩ := hs
  clear hR ok
  obtain ⟨kn, hkn⟩ : ∃ k : Nat, e.kd = k := ⟨e.kd.toNat, by omega⟩
  obtain ⟨b, hb⟩ : ∃ b, b = bareF e := ⟨_, rfl⟩
  have HBR : Hid (∀ wx, Calls Tryd.prog 39 #[evV e] wx fun r w' => r = .returned (evV b) ∧ Below wx.heap.size wx w') := fun wx => hb ▸ rbare_any e wx
  have HNM : Hid (∀ wx, Below w.heap.size w wx → Calls Tryd.prog 18 #[.int .u8 e.kd] wx fun r w' => r = .returned (.string (bsW (nmL kn))) ∧ Below wx.heap.size wx w') := fun wx h => by
    rw [hkn]
    exact (rname_any kn (by omega) wx (he.below h)).mono fun r w' ⟨h1, h2⟩ => ⟨h1, h2 ▸ Below.refl _ _⟩
  have HNB : Hid (bareF e ≠ e → (!(b.kd == e.kd && (b.th == e.th && (b.tx == e.tx && (b.pl == e.pl && (b.v == e.v && (b.x == e.x && b.why == e.why))))))) = true) := fun h => ev_neq (by rw [hb]; exact h)
  have HEB : Hid (bareF e = e → (!(b.kd == e.kd && (b.th == e.th && (b.tx == e.tx && (b.pl == e.pl && (b.v == e.v && (b.x == e.x && b.why == e.why))))))) = false) := fun h => by rw [hb, h]; exact ev_eq e
  clear hb he
  obtain ⟨kd, th, tx, pl, v, x, why⟩ := e
  obtain ⟨b0, b1, b2, b3, b4, b5, b6⟩ := b
  unfold evV at HBR ⊢
  simp only at HNO HYES hkn HBR HNM HNB HEB k0 k1 w0 w1 ⊢
  have HKN := Lib.hid hkn
  have knb : kn ≤ 255 := by omega
  clear hkn
  have e1 : decide (T < 1) = false := decide_eq_false (by omega)
  have e2 : decide (6 < T) = false := decide_eq_false (by omega)
  have e3 : decide (V < 1) = false := decide_eq_false (by omega)
  have e4 : decide (32 < V) = false := decide_eq_false (by omega)
  have e5 : decide (S < 1) = false := decide_eq_false (by omega)
  have e6 : decide (V < S) = false := decide_eq_false (by omega)
  go_enter Tryd.func16, Tryd.ntmps16
  go_wp2_with fail
  obtain ⟨W0, hW0⟩ : ∃ W0, W0 = w.alloc (.cells #[.int .u8 kd, .int .i64 th, .int .i64 tx, .int .i64 pl, .int .i64 v, .int .i64 x, .int .u8 why] 23) := ⟨_, rfl⟩
  obtain ⟨g, hg⟩ : ∃ g, g = w.heap.size := ⟨_, rfl⟩
  have hr : W0.heap[g]? = some (.cells #[.int .u8 kd, .int .i64 th, .int .i64 tx, .int .i64 pl, .int .i64 v, .int .i64 x, .int .u8 why] 23 (0, 0)) := by rw [hW0, hg]; exact heap_alloc_new w _
  have hb0 : Below w.heap.size w W0 := by rw [hW0]; exact (Below.refl _ _).alloc (Nat.le_refl _) _
  have HR := Lib.hid hr
  have HB0 := Lib.hid hb0
  rw [← hW0, ← hg]
  clear hW0 hg hr hb0
  by_cases q1 : 1 ≤ kn ∧ kn ≤ 13
  · skip
    by_cases q2 : 0 ≤ th
    · skip
      by_cases q3 : th < T
      · skip
        by_cases q4 : bareF ⟨kd, th, tx, pl, v, x, why⟩ = ⟨kd, th, tx, pl, v, x, why⟩
        · skip
          by_cases q5 : 0 ≤ tx
          · skip
            by_cases q6 : tx < 6
            · skip
              by_cases q7 : 0 ≤ v
              · skip
                by_cases q8 : v ≤ 1099511627776
                · skip
                  by_cases q9 : 0 ≤ pl
                  · skip
                    refine regR3_0 rfl _ (by simp) W0 g kn kd th tx pl v x why T b0 b1 b2 b3 b4 b5 b6 HKN.out (fun wx h => row_stays HR.out h) (fun wx h => HNM.out wx (HB0.out.trans (h.mono HB0.out.size))) (fun wx _ => HBR.out wx) (nm_full q1.1 q1.2) (decide_eq_false (by omega)) (decide_eq_false (by omega)) (HEB.out q4) (decide_eq_false (by omega)) (decide_eq_false (by omega)) (decide_eq_false (by omega)) (decide_eq_false (by omega)) (decide_eq_false (by omega)) rfl rfl ?_
                    intro us w5 hu b5 h45
                    obtain ⟨z0, z1, z2, z3, z4, z5, z6, z7, z8, z9, z10, z11, z12, z13, z14, z15, z16, z17, z18, z19, z20, z21, z22, z23, z24, z25, z26, z27, z28, z29, z30, z31, z32, z33, z34, z35, z36, z37, z38, z39, z40, z41, z42, z43, z44, z45, rfl⟩ : ∃ z0 z1 z2 z3 z4 z5 z6 z7 z8 z9 z10 z11 z12 z13 z14 z15 z16 z17 z18 z19 z20 z21 z22 z23 z24 z25 z26 z27 z28 z29 z30 z31 z32 z33 z34 z35 z36 z37 z38 z39 z40 z41 z42 z43 z44 z45 : Value, us = [z0, z1, z2, z3, z4, z5, z6, z7, z8, z9, z10, z11, z12, z13, z14, z15, z16, z17, z18, z19, z20, z21, z22, z23, z24, z25, z26, z27, z28, z29, z30, z31, z32, z33, z34, z35, z36, z37, z38, z39, z40, z41, z42, z43, z44, z45] := by
                      obtain ⟨z0, r0, rfl, hl0⟩ := cons_ofW hu
                      obtain ⟨z1, r1, rfl, hl1⟩ := cons_ofW hl0
                      obtain ⟨z2, r2, rfl, hl2⟩ := cons_ofW hl1
                      obtain ⟨z3, r3, rfl, hl3⟩ := cons_ofW hl2
                      obtain ⟨z4, r4, rfl, hl4⟩ := cons_ofW hl3
                      obtain ⟨z5, r5, rfl, hl5⟩ := cons_ofW hl4
                      obtain ⟨z6, r6, rfl, hl6⟩ := cons_ofW hl5
                      obtain ⟨z7, r7, rfl, hl7⟩ := cons_ofW hl6
                      obtain ⟨z8, r8, rfl, hl8⟩ := cons_ofW hl7
                      obtain ⟨z9, r9, rfl, hl9⟩ := cons_ofW hl8
                      obtain ⟨z10, r10, rfl, hl10⟩ := cons_ofW hl9
                      obtain ⟨z11, r11, rfl, hl11⟩ := cons_ofW hl10
                      obtain ⟨z12, r12, rfl, hl12⟩ := cons_ofW hl11
                      obtain ⟨z13, r13, rfl, hl13⟩ := cons_ofW hl12
                      obtain ⟨z14, r14, rfl, hl14⟩ := cons_ofW hl13
                      obtain ⟨z15, r15, rfl, hl15⟩ := cons_ofW hl14
                      obtain ⟨z16, r16, rfl, hl16⟩ := cons_ofW hl15
                      obtain ⟨z17, r17, rfl, hl17⟩ := cons_ofW hl16
                      obtain ⟨z18, r18, rfl, hl18⟩ := cons_ofW hl17
                      obtain ⟨z19, r19, rfl, hl19⟩ := cons_ofW hl18
                      obtain ⟨z20, r20, rfl, hl20⟩ := cons_ofW hl19
                      obtain ⟨z21, r21, rfl, hl21⟩ := cons_ofW hl20
                      obtain ⟨z22, r22, rfl, hl22⟩ := cons_ofW hl21
                      obtain ⟨z23, r23, rfl, hl23⟩ := cons_ofW hl22
                      obtain ⟨z24, r24, rfl, hl24⟩ := cons_ofW hl23
                      obtain ⟨z25, r25, rfl, hl25⟩ := cons_ofW hl24
                      obtain ⟨z26, r26, rfl, hl26⟩ := cons_ofW hl25
                      obtain ⟨z27, r27, rfl, hl27⟩ := cons_ofW hl26
                      obtain ⟨z28, r28, rfl, hl28⟩ := cons_ofW hl27
                      obtain ⟨z29, r29, rfl, hl29⟩ := cons_ofW hl28
                      obtain ⟨z30, r30, rfl, hl30⟩ := cons_ofW hl29
                      obtain ⟨z31, r31, rfl, hl31⟩ := cons_ofW hl30
                      obtain ⟨z32, r32, rfl, hl32⟩ := cons_ofW hl31
                      obtain ⟨z33, r33, rfl, hl33⟩ := cons_ofW hl32
                      obtain ⟨z34, r34, rfl, hl34⟩ := cons_ofW hl33
                      obtain ⟨z35, r35, rfl, hl35⟩ := cons_ofW hl34
                      obtain ⟨z36, r36, rfl, hl36⟩ := cons_ofW hl35
                      obtain ⟨z37, r37, rfl, hl37⟩ := cons_ofW hl36
                      obtain ⟨z38, r38, rfl, hl38⟩ := cons_ofW hl37
                      obtain ⟨z39, r39, rfl, hl39⟩ := cons_ofW hl38
                      obtain ⟨z40, r40, rfl, hl40⟩ := cons_ofW hl39
                      obtain ⟨z41, r41, rfl, hl41⟩ := cons_ofW hl40
                      obtain ⟨z42, r42, rfl, hl42⟩ := cons_ofW hl41
                      obtain ⟨z43, r43, rfl, hl43⟩ := cons_ofW hl42
                      obtain ⟨z44, r44, rfl, hl44⟩ := cons_ofW hl43
                      obtain ⟨z45, r45, rfl, hl45⟩ := cons_ofW hl44
                      obtain rfl := List.length_eq_zero_iff.1 hl45
                      exact ⟨z0, z1, z2, z3, z4, z5, z6, z7, z8, z9, z10, z11, z12, z13, z14, z15, z16, z17, z18, z19, z20, z21, z22, z23, z24, z25, z26, z27, z28, z29, z30, z31, z32, z33, z34, z35, z36, z37, z38, z39, z40, z41, z42, z43, z44, z45, rfl⟩
                    obtain rfl : z45 = .bool false := h45
                    have B5 : Hid (Below w.heap.size w w5) := HB0.out.trans (b5.mono HB0.out.size)
                    obtain ⟨x0, x1, x2, x3, x4, x5, x6⟩ := evat (row_stays HR.out b5)
                    simp only [regR3_0_ds, putAll, List.setIfInBounds_toArray, List.set_cons_succ, List.set_cons_zero]
                    have HF := Lib.hid (HYES.out ⟨by have := HKN.out; omega, by have := HKN.out; omega⟩ ⟨q2, q3⟩ q4 ⟨q5, q6⟩ ⟨q7, q8⟩ q9)
                    clear HYES HNO hu b5 HNM HBR HNB HEB HR HB0 q4 e1 e2 e3 e4 e5 e6
                    have hkk : kn = 1 ∨ kn = 2 ∨ kn = 3 ∨ kn = 4 ∨ kn = 5 ∨ kn = 6 ∨ kn = 7 ∨ kn = 8 ∨ kn = 9 ∨ kn = 10 ∨ kn = 11 ∨ kn = 12 ∨ kn = 13 := by omega
                    by_cases kten : kn = 10
                    · subst kten
                      obtain rfl : kd = 10 := HKN.out
                      by_cases a1 : 1 ≤ why
                      · by_cases a2 : why ≤ 6
                        · by_cases a3 : pl < S
                          · by_cases a4 : why = 6
                            · subst a4
                              go_wp2_with fail
                              go_ret
                              exact ⟨by rw [HF.out]; simp [finB, a3], B5.out⟩
                            · have a5 : (why == 6) = false := beq_eq_false_iff_ne.2 a4
                              have a6 : (why != 6) = true := by simp [a4]
                              go_wp2_with fail
                              go_ret
                              exact ⟨by rw [HF.out]; simp [finB, a1, a2, a3, a4], B5.out⟩
                          · have a5 : decide (pl < S) = false := decide_eq_false a3
                            go_wp2_with fail
                            go_ret
                            exact ⟨by rw [HF.out]; simp [finB, a5], B5.out⟩
                        · have a5 : decide (why ≤ 6) = false := decide_eq_false a2
                          go_wp2_with fail
                          go_ret
                          exact ⟨by rw [HF.out]; simp [finB, a5], B5.out⟩
                      · have a5 : decide (1 ≤ why) = false := decide_eq_false a1
                        go_wp2_with fail
                        go_ret
                        exact ⟨by rw [HF.out]; simp [finB, a5], B5.out⟩
                    · rcases hkk with rfl | rfl | rfl | rfl | rfl | rfl | rfl | rfl | rfl | rfl | rfl | rfl | rfl
                      iterate 9
                        · obtain rfl := HKN.out
                          clear kten
                          go_wp2_with fail
                          go_ret
                          exact ⟨by rw [HF.out]; simp [finB], B5.out⟩
                      · exact absurd rfl kten
                      iterate 3
                        · obtain rfl := HKN.out
                          clear kten
                          go_wp2_with fail
                          go_ret
                          exact ⟨by rw [HF.out]; simp [finB], B5.out⟩
                  · have hRf := HNO.out (fun hh => q9 (by omega))
                    refine regR3_9 rfl _ (by simp) W0 g kn kd th tx pl v x why T b0 b1 b2 b3 b4 b5 b6 HKN.out (fun wx h => row_stays HR.out h) (fun wx h => HNM.out wx (HB0.out.trans (h.mono HB0.out.size))) (fun wx _ => HBR.out wx) (nm_full q1.1 q1.2) (decide_eq_false (by omega)) (decide_eq_false (by omega)) (HEB.out q4) (decide_eq_false (by omega)) (decide_eq_false (by omega)) (decide_eq_false (by omega)) (decide_eq_false (by omega)) (decide_eq_true (by omega)) rfl rfl ?_
                    intro us w5 hu b5 h45
                    obtain ⟨z0, z1, z2, z3, z4, z5, z6, z7, z8, z9, z10, z11, z12, z13, z14, z15, z16, z17, z18, z19, z20, z21, z22, z23, z24, z25, z26, z27, z28, z29, z30, z31, z32, z33, z34, z35, z36, z37, z38, z39, z40, z41, z42, z43, z44, z45, rfl⟩ : ∃ z0 z1 z2 z3 z4 z5 z6 z7 z8 z9 z10 z11 z12 z13 z14 z15 z16 z17 z18 z19 z20 z21 z22 z23 z24 z25 z26 z27 z28 z29 z30 z31 z32 z33 z34 z35 z36 z37 z38 z39 z40 z41 z42 z43 z44 z45 : Value, us = [z0, z1, z2, z3, z4, z5, z6, z7, z8, z9, z10, z11, z12, z13, z14, z15, z16, z17, z18, z19, z20, z21, z22, z23, z24, z25, z26, z27, z28, z29, z30, z31, z32, z33, z34, z35, z36, z37, z38, z39, z40, z41, z42, z43, z44, z45] := by
                      obtain ⟨z0, r0, rfl, hl0⟩ := cons_ofW hu
                      obtain ⟨z1, r1, rfl, hl1⟩ := cons_ofW hl0
                      obtain ⟨z2, r2, rfl, hl2⟩ := cons_ofW hl1
                      obtain ⟨z3, r3, rfl, hl3⟩ := cons_ofW hl2
                      obtain ⟨z4, r4, rfl, hl4⟩ := cons_ofW hl3
                      obtain ⟨z5, r5, rfl, hl5⟩ := cons_ofW hl4
                      obtain ⟨z6, r6, rfl, hl6⟩ := cons_ofW hl5
                      obtain ⟨z7, r7, rfl, hl7⟩ := cons_ofW hl6
                      obtain ⟨z8, r8, rfl, hl8⟩ := cons_ofW hl7
                      obtain ⟨z9, r9, rfl, hl9⟩ := cons_ofW hl8
                      obtain ⟨z10, r10, rfl, hl10⟩ := cons_ofW hl9
                      obtain ⟨z11, r11, rfl, hl11⟩ := cons_ofW hl10
                      obtain ⟨z12, r12, rfl, hl12⟩ := cons_ofW hl11
                      obtain ⟨z13, r13, rfl, hl13⟩ := cons_ofW hl12
                      obtain ⟨z14, r14, rfl, hl14⟩ := cons_ofW hl13
                      obtain ⟨z15, r15, rfl, hl15⟩ := cons_ofW hl14
                      obtain ⟨z16, r16, rfl, hl16⟩ := cons_ofW hl15
                      obtain ⟨z17, r17, rfl, hl17⟩ := cons_ofW hl16
                      obtain ⟨z18, r18, rfl, hl18⟩ := cons_ofW hl17
                      obtain ⟨z19, r19, rfl, hl19⟩ := cons_ofW hl18
                      obtain ⟨z20, r20, rfl, hl20⟩ := cons_ofW hl19
                      obtain ⟨z21, r21, rfl, hl21⟩ := cons_ofW hl20
                      obtain ⟨z22, r22, rfl, hl22⟩ := cons_ofW hl21
                      obtain ⟨z23, r23, rfl, hl23⟩ := cons_ofW hl22
                      obtain ⟨z24, r24, rfl, hl24⟩ := cons_ofW hl23
                      obtain ⟨z25, r25, rfl, hl25⟩ := cons_ofW hl24
                      obtain ⟨z26, r26, rfl, hl26⟩ := cons_ofW hl25
                      obtain ⟨z27, r27, rfl, hl27⟩ := cons_ofW hl26
                      obtain ⟨z28, r28, rfl, hl28⟩ := cons_ofW hl27
                      obtain ⟨z29, r29, rfl, hl29⟩ := cons_ofW hl28
                      obtain ⟨z30, r30, rfl, hl30⟩ := cons_ofW hl29
                      obtain ⟨z31, r31, rfl, hl31⟩ := cons_ofW hl30
                      obtain ⟨z32, r32, rfl, hl32⟩ := cons_ofW hl31
                      obtain ⟨z33, r33, rfl, hl33⟩ := cons_ofW hl32
                      obtain ⟨z34, r34, rfl, hl34⟩ := cons_ofW hl33
                      obtain ⟨z35, r35, rfl, hl35⟩ := cons_ofW hl34
                      obtain ⟨z36, r36, rfl, hl36⟩ := cons_ofW hl35
                      obtain ⟨z37, r37, rfl, hl37⟩ := cons_ofW hl36
                      obtain ⟨z38, r38, rfl, hl38⟩ := cons_ofW hl37
                      obtain ⟨z39, r39, rfl, hl39⟩ := cons_ofW hl38
                      obtain ⟨z40, r40, rfl, hl40⟩ := cons_ofW hl39
                      obtain ⟨z41, r41, rfl, hl41⟩ := cons_ofW hl40
                      obtain ⟨z42, r42, rfl, hl42⟩ := cons_ofW hl41
                      obtain ⟨z43, r43, rfl, hl43⟩ := cons_ofW hl42
                      obtain ⟨z44, r44, rfl, hl44⟩ := cons_ofW hl43
                      obtain ⟨z45, r45, rfl, hl45⟩ := cons_ofW hl44
                      obtain rfl := List.length_eq_zero_iff.1 hl45
                      exact ⟨z0, z1, z2, z3, z4, z5, z6, z7, z8, z9, z10, z11, z12, z13, z14, z15, z16, z17, z18, z19, z20, z21, z22, z23, z24, z25, z26, z27, z28, z29, z30, z31, z32, z33, z34, z35, z36, z37, z38, z39, z40, z41, z42, z43, z44, z45, rfl⟩
                    obtain rfl : z45 = .bool true := h45
                    have B5 : Hid (Below w.heap.size w w5) := HB0.out.trans (b5.mono HB0.out.size)
                    obtain ⟨x0, x1, x2, x3, x4, x5, x6⟩ := evat (row_stays HR.out b5)
                    simp only [regR3_9_ds, putAll, List.setIfInBounds_toArray, List.set_cons_succ, List.set_cons_zero]
                    clear HYES HNO hu b5 HNM HBR HNB HEB HR HB0
                    subst hRf
                    go_wp2_with fail
                    go_ret
                    exact ⟨rfl, B5.out⟩
                · have hRf := HNO.out (fun hh => q8 (by omega))
                  refine regR3_8 rfl _ (by simp) W0 g kn kd th tx pl v x why T b0 b1 b2 b3 b4 b5 b6 HKN.out (fun wx h => row_stays HR.out h) (fun wx h => HNM.out wx (HB0.out.trans (h.mono HB0.out.size))) (fun wx _ => HBR.out wx) (nm_full q1.1 q1.2) (decide_eq_false (by omega)) (decide_eq_false (by omega)) (HEB.out q4) (decide_eq_false (by omega)) (decide_eq_false (by omega)) (decide_eq_false (by omega)) (decide_eq_true (by omega)) rfl rfl ?_
                  intro us w5 hu b5 h45
                  obtain ⟨z0, z1, z2, z3, z4, z5, z6, z7, z8, z9, z10, z11, z12, z13, z14, z15, z16, z17, z18, z19, z20, z21, z22, z23, z24, z25, z26, z27, z28, z29, z30, z31, z32, z33, z34, z35, z36, z37, z38, z39, z40, z41, z42, z43, z44, z45, rfl⟩ : ∃ z0 z1 z2 z3 z4 z5 z6 z7 z8 z9 z10 z11 z12 z13 z14 z15 z16 z17 z18 z19 z20 z21 z22 z23 z24 z25 z26 z27 z28 z29 z30 z31 z32 z33 z34 z35 z36 z37 z38 z39 z40 z41 z42 z43 z44 z45 : Value, us = [z0, z1, z2, z3, z4, z5, z6, z7, z8, z9, z10, z11, z12, z13, z14, z15, z16, z17, z18, z19, z20, z21, z22, z23, z24, z25, z26, z27, z28, z29, z30, z31, z32, z33, z34, z35, z36, z37, z38, z39, z40, z41, z42, z43, z44, z45] := by
                    obtain ⟨z0, r0, rfl, hl0⟩ := cons_ofW hu
                    obtain ⟨z1, r1, rfl, hl1⟩ := cons_ofW hl0
                    obtain ⟨z2, r2, rfl, hl2⟩ := cons_ofW hl1
                    obtain ⟨z3, r3, rfl, hl3⟩ := cons_ofW hl2
                    obtain ⟨z4, r4, rfl, hl4⟩ := cons_ofW hl3
                    obtain ⟨z5, r5, rfl, hl5⟩ := cons_ofW hl4
                    obtain ⟨z6, r6, rfl, hl6⟩ := cons_ofW hl5
                    obtain ⟨z7, r7, rfl, hl7⟩ := cons_ofW hl6
                    obtain ⟨z8, r8, rfl, hl8⟩ := cons_ofW hl7
                    obtain ⟨z9, r9, rfl, hl9⟩ := cons_ofW hl8
                    obtain ⟨z10, r10, rfl, hl10⟩ := cons_ofW hl9
                    obtain ⟨z11, r11, rfl, hl11⟩ := cons_ofW hl10
                    obtain ⟨z12, r12, rfl, hl12⟩ := cons_ofW hl11
                    obtain ⟨z13, r13, rfl, hl13⟩ := cons_ofW hl12
                    obtain ⟨z14, r14, rfl, hl14⟩ := cons_ofW hl13
                    obtain ⟨z15, r15, rfl, hl15⟩ := cons_ofW hl14
                    obtain ⟨z16, r16, rfl, hl16⟩ := cons_ofW hl15
                    obtain ⟨z17, r17, rfl, hl17⟩ := cons_ofW hl16
                    obtain ⟨z18, r18, rfl, hl18⟩ := cons_ofW hl17
                    obtain ⟨z19, r19, rfl, hl19⟩ := cons_ofW hl18
                    obtain ⟨z20, r20, rfl, hl20⟩ := cons_ofW hl19
                    obtain ⟨z21, r21, rfl, hl21⟩ := cons_ofW hl20
                    obtain ⟨z22, r22, rfl, hl22⟩ := cons_ofW hl21
                    obtain ⟨z23, r23, rfl, hl23⟩ := cons_ofW hl22
                    obtain ⟨z24, r24, rfl, hl24⟩ := cons_ofW hl23
                    obtain ⟨z25, r25, rfl, hl25⟩ := cons_ofW hl24
                    obtain ⟨z26, r26, rfl, hl26⟩ := cons_ofW hl25
                    obtain ⟨z27, r27, rfl, hl27⟩ := cons_ofW hl26
                    obtain ⟨z28, r28, rfl, hl28⟩ := cons_ofW hl27
                    obtain ⟨z29, r29, rfl, hl29⟩ := cons_ofW hl28
                    obtain ⟨z30, r30, rfl, hl30⟩ := cons_ofW hl29
                    obtain ⟨z31, r31, rfl, hl31⟩ := cons_ofW hl30
                    obtain ⟨z32, r32, rfl, hl32⟩ := cons_ofW hl31
                    obtain ⟨z33, r33, rfl, hl33⟩ := cons_ofW hl32
                    obtain ⟨z34, r34, rfl, hl34⟩ := cons_ofW hl33
                    obtain ⟨z35, r35, rfl, hl35⟩ := cons_ofW hl34
                    obtain ⟨z36, r36, rfl, hl36⟩ := cons_ofW hl35
                    obtain ⟨z37, r37, rfl, hl37⟩ := cons_ofW hl36
                    obtain ⟨z38, r38, rfl, hl38⟩ := cons_ofW hl37
                    obtain ⟨z39, r39, rfl, hl39⟩ := cons_ofW hl38
                    obtain ⟨z40, r40, rfl, hl40⟩ := cons_ofW hl39
                    obtain ⟨z41, r41, rfl, hl41⟩ := cons_ofW hl40
                    obtain ⟨z42, r42, rfl, hl42⟩ := cons_ofW hl41
                    obtain ⟨z43, r43, rfl, hl43⟩ := cons_ofW hl42
                    obtain ⟨z44, r44, rfl, hl44⟩ := cons_ofW hl43
                    obtain ⟨z45, r45, rfl, hl45⟩ := cons_ofW hl44
                    obtain rfl := List.length_eq_zero_iff.1 hl45
                    exact ⟨z0, z1, z2, z3, z4, z5, z6, z7, z8, z9, z10, z11, z12, z13, z14, z15, z16, z17, z18, z19, z20, z21, z22, z23, z24, z25, z26, z27, z28, z29, z30, z31, z32, z33, z34, z35, z36, z37, z38, z39, z40, z41, z42, z43, z44, z45, rfl⟩
                  obtain rfl : z45 = .bool true := h45
                  have B5 : Hid (Below w.heap.size w w5) := HB0.out.trans (b5.mono HB0.out.size)
                  obtain ⟨x0, x1, x2, x3, x4, x5, x6⟩ := evat (row_stays HR.out b5)
                  simp only [regR3_8_ds, putAll, List.setIfInBounds_toArray, List.set_cons_succ, List.set_cons_zero]
                  clear HYES HNO hu b5 HNM HBR HNB HEB HR HB0
                  subst hRf
                  go_wp2_with fail
                  go_ret
                  exact ⟨rfl, B5.out⟩
              · have hRf := HNO.out (fun hh => q7 (by omega))
                refine regR3_7 rfl _ (by simp) W0 g kn kd th tx pl v x why T b0 b1 b2 b3 b4 b5 b6 HKN.out (fun wx h => row_stays HR.out h) (fun wx h => HNM.out wx (HB0.out.trans (h.mono HB0.out.size))) (fun wx _ => HBR.out wx) (nm_full q1.1 q1.2) (decide_eq_false (by omega)) (decide_eq_false (by omega)) (HEB.out q4) (decide_eq_false (by omega)) (decide_eq_false (by omega)) (decide_eq_true (by omega)) rfl rfl ?_
                intro us w5 hu b5 h45
                obtain ⟨z0, z1, z2, z3, z4, z5, z6, z7, z8, z9, z10, z11, z12, z13, z14, z15, z16, z17, z18, z19, z20, z21, z22, z23, z24, z25, z26, z27, z28, z29, z30, z31, z32, z33, z34, z35, z36, z37, z38, z39, z40, z41, z42, z43, z44, z45, rfl⟩ : ∃ z0 z1 z2 z3 z4 z5 z6 z7 z8 z9 z10 z11 z12 z13 z14 z15 z16 z17 z18 z19 z20 z21 z22 z23 z24 z25 z26 z27 z28 z29 z30 z31 z32 z33 z34 z35 z36 z37 z38 z39 z40 z41 z42 z43 z44 z45 : Value, us = [z0, z1, z2, z3, z4, z5, z6, z7, z8, z9, z10, z11, z12, z13, z14, z15, z16, z17, z18, z19, z20, z21, z22, z23, z24, z25, z26, z27, z28, z29, z30, z31, z32, z33, z34, z35, z36, z37, z38, z39, z40, z41, z42, z43, z44, z45] := by
                  obtain ⟨z0, r0, rfl, hl0⟩ := cons_ofW hu
                  obtain ⟨z1, r1, rfl, hl1⟩ := cons_ofW hl0
                  obtain ⟨z2, r2, rfl, hl2⟩ := cons_ofW hl1
                  obtain ⟨z3, r3, rfl, hl3⟩ := cons_ofW hl2
                  obtain ⟨z4, r4, rfl, hl4⟩ := cons_ofW hl3
                  obtain ⟨z5, r5, rfl, hl5⟩ := cons_ofW hl4
                  obtain ⟨z6, r6, rfl, hl6⟩ := cons_ofW hl5
                  obtain ⟨z7, r7, rfl, hl7⟩ := cons_ofW hl6
                  obtain ⟨z8, r8, rfl, hl8⟩ := cons_ofW hl7
                  obtain ⟨z9, r9, rfl, hl9⟩ := cons_ofW hl8
                  obtain ⟨z10, r10, rfl, hl10⟩ := cons_ofW hl9
                  obtain ⟨z11, r11, rfl, hl11⟩ := cons_ofW hl10
                  obtain ⟨z12, r12, rfl, hl12⟩ := cons_ofW hl11
                  obtain ⟨z13, r13, rfl, hl13⟩ := cons_ofW hl12
                  obtain ⟨z14, r14, rfl, hl14⟩ := cons_ofW hl13
                  obtain ⟨z15, r15, rfl, hl15⟩ := cons_ofW hl14
                  obtain ⟨z16, r16, rfl, hl16⟩ := cons_ofW hl15
                  obtain ⟨z17, r17, rfl, hl17⟩ := cons_ofW hl16
                  obtain ⟨z18, r18, rfl, hl18⟩ := cons_ofW hl17
                  obtain ⟨z19, r19, rfl, hl19⟩ := cons_ofW hl18
                  obtain ⟨z20, r20, rfl, hl20⟩ := cons_ofW hl19
                  obtain ⟨z21, r21, rfl, hl21⟩ := cons_ofW hl20
                  obtain ⟨z22, r22, rfl, hl22⟩ := cons_ofW hl21
                  obtain ⟨z23, r23, rfl, hl23⟩ := cons_ofW hl22
                  obtain ⟨z24, r24, rfl, hl24⟩ := cons_ofW hl23
                  obtain ⟨z25, r25, rfl, hl25⟩ := cons_ofW hl24
                  obtain ⟨z26, r26, rfl, hl26⟩ := cons_ofW hl25
                  obtain ⟨z27, r27, rfl, hl27⟩ := cons_ofW hl26
                  obtain ⟨z28, r28, rfl, hl28⟩ := cons_ofW hl27
                  obtain ⟨z29, r29, rfl, hl29⟩ := cons_ofW hl28
                  obtain ⟨z30, r30, rfl, hl30⟩ := cons_ofW hl29
                  obtain ⟨z31, r31, rfl, hl31⟩ := cons_ofW hl30
                  obtain ⟨z32, r32, rfl, hl32⟩ := cons_ofW hl31
                  obtain ⟨z33, r33, rfl, hl33⟩ := cons_ofW hl32
                  obtain ⟨z34, r34, rfl, hl34⟩ := cons_ofW hl33
                  obtain ⟨z35, r35, rfl, hl35⟩ := cons_ofW hl34
                  obtain ⟨z36, r36, rfl, hl36⟩ := cons_ofW hl35
                  obtain ⟨z37, r37, rfl, hl37⟩ := cons_ofW hl36
                  obtain ⟨z38, r38, rfl, hl38⟩ := cons_ofW hl37
                  obtain ⟨z39, r39, rfl, hl39⟩ := cons_ofW hl38
                  obtain ⟨z40, r40, rfl, hl40⟩ := cons_ofW hl39
                  obtain ⟨z41, r41, rfl, hl41⟩ := cons_ofW hl40
                  obtain ⟨z42, r42, rfl, hl42⟩ := cons_ofW hl41
                  obtain ⟨z43, r43, rfl, hl43⟩ := cons_ofW hl42
                  obtain ⟨z44, r44, rfl, hl44⟩ := cons_ofW hl43
                  obtain ⟨z45, r45, rfl, hl45⟩ := cons_ofW hl44
                  obtain rfl := List.length_eq_zero_iff.1 hl45
                  exact ⟨z0, z1, z2, z3, z4, z5, z6, z7, z8, z9, z10, z11, z12, z13, z14, z15, z16, z17, z18, z19, z20, z21, z22, z23, z24, z25, z26, z27, z28, z29, z30, z31, z32, z33, z34, z35, z36, z37, z38, z39, z40, z41, z42, z43, z44, z45, rfl⟩
                obtain rfl : z45 = .bool true := h45
                have B5 : Hid (Below w.heap.size w w5) := HB0.out.trans (b5.mono HB0.out.size)
                obtain ⟨x0, x1, x2, x3, x4, x5, x6⟩ := evat (row_stays HR.out b5)
                simp only [regR3_7_ds, putAll, List.setIfInBounds_toArray, List.set_cons_succ, List.set_cons_zero]
                clear HYES HNO hu b5 HNM HBR HNB HEB HR HB0
                subst hRf
                go_wp2_with fail
                go_ret
                exact ⟨rfl, B5.out⟩
            · have hRf := HNO.out (fun hh => q6 (by omega))
              refine regR3_6 rfl _ (by simp) W0 g kn kd th tx pl v x why T b0 b1 b2 b3 b4 b5 b6 HKN.out (fun wx h => row_stays HR.out h) (fun wx h => HNM.out wx (HB0.out.trans (h.mono HB0.out.size))) (fun wx _ => HBR.out wx) (nm_full q1.1 q1.2) (decide_eq_false (by omega)) (decide_eq_false (by omega)) (HEB.out q4) (decide_eq_false (by omega)) (decide_eq_true (by omega)) rfl rfl ?_
              intro us w5 hu b5 h45
              obtain ⟨z0, z1, z2, z3, z4, z5, z6, z7, z8, z9, z10, z11, z12, z13, z14, z15, z16, z17, z18, z19, z20, z21, z22, z23, z24, z25, z26, z27, z28, z29, z30, z31, z32, z33, z34, z35, z36, z37, z38, z39, z40, z41, z42, z43, z44, z45, rfl⟩ : ∃ z0 z1 z2 z3 z4 z5 z6 z7 z8 z9 z10 z11 z12 z13 z14 z15 z16 z17 z18 z19 z20 z21 z22 z23 z24 z25 z26 z27 z28 z29 z30 z31 z32 z33 z34 z35 z36 z37 z38 z39 z40 z41 z42 z43 z44 z45 : Value, us = [z0, z1, z2, z3, z4, z5, z6, z7, z8, z9, z10, z11, z12, z13, z14, z15, z16, z17, z18, z19, z20, z21, z22, z23, z24, z25, z26, z27, z28, z29, z30, z31, z32, z33, z34, z35, z36, z37, z38, z39, z40, z41, z42, z43, z44, z45] := by
                obtain ⟨z0, r0, rfl, hl0⟩ := cons_ofW hu
                obtain ⟨z1, r1, rfl, hl1⟩ := cons_ofW hl0
                obtain ⟨z2, r2, rfl, hl2⟩ := cons_ofW hl1
                obtain ⟨z3, r3, rfl, hl3⟩ := cons_ofW hl2
                obtain ⟨z4, r4, rfl, hl4⟩ := cons_ofW hl3
                obtain ⟨z5, r5, rfl, hl5⟩ := cons_ofW hl4
                obtain ⟨z6, r6, rfl, hl6⟩ := cons_ofW hl5
                obtain ⟨z7, r7, rfl, hl7⟩ := cons_ofW hl6
                obtain ⟨z8, r8, rfl, hl8⟩ := cons_ofW hl7
                obtain ⟨z9, r9, rfl, hl9⟩ := cons_ofW hl8
                obtain ⟨z10, r10, rfl, hl10⟩ := cons_ofW hl9
                obtain ⟨z11, r11, rfl, hl11⟩ := cons_ofW hl10
                obtain ⟨z12, r12, rfl, hl12⟩ := cons_ofW hl11
                obtain ⟨z13, r13, rfl, hl13⟩ := cons_ofW hl12
                obtain ⟨z14, r14, rfl, hl14⟩ := cons_ofW hl13
                obtain ⟨z15, r15, rfl, hl15⟩ := cons_ofW hl14
                obtain ⟨z16, r16, rfl, hl16⟩ := cons_ofW hl15
                obtain ⟨z17, r17, rfl, hl17⟩ := cons_ofW hl16
                obtain ⟨z18, r18, rfl, hl18⟩ := cons_ofW hl17
                obtain ⟨z19, r19, rfl, hl19⟩ := cons_ofW hl18
                obtain ⟨z20, r20, rfl, hl20⟩ := cons_ofW hl19
                obtain ⟨z21, r21, rfl, hl21⟩ := cons_ofW hl20
                obtain ⟨z22, r22, rfl, hl22⟩ := cons_ofW hl21
                obtain ⟨z23, r23, rfl, hl23⟩ := cons_ofW hl22
                obtain ⟨z24, r24, rfl, hl24⟩ := cons_ofW hl23
                obtain ⟨z25, r25, rfl, hl25⟩ := cons_ofW hl24
                obtain ⟨z26, r26, rfl, hl26⟩ := cons_ofW hl25
                obtain ⟨z27, r27, rfl, hl27⟩ := cons_ofW hl26
                obtain ⟨z28, r28, rfl, hl28⟩ := cons_ofW hl27
                obtain ⟨z29, r29, rfl, hl29⟩ := cons_ofW hl28
                obtain ⟨z30, r30, rfl, hl30⟩ := cons_ofW hl29
                obtain ⟨z31, r31, rfl, hl31⟩ := cons_ofW hl30
                obtain ⟨z32, r32, rfl, hl32⟩ := cons_ofW hl31
                obtain ⟨z33, r33, rfl, hl33⟩ := cons_ofW hl32
                obtain ⟨z34, r34, rfl, hl34⟩ := cons_ofW hl33
                obtain ⟨z35, r35, rfl, hl35⟩ := cons_ofW hl34
                obtain ⟨z36, r36, rfl, hl36⟩ := cons_ofW hl35
                obtain ⟨z37, r37, rfl, hl37⟩ := cons_ofW hl36
                obtain ⟨z38, r38, rfl, hl38⟩ := cons_ofW hl37
                obtain ⟨z39, r39, rfl, hl39⟩ := cons_ofW hl38
                obtain ⟨z40, r40, rfl, hl40⟩ := cons_ofW hl39
                obtain ⟨z41, r41, rfl, hl41⟩ := cons_ofW hl40
                obtain ⟨z42, r42, rfl, hl42⟩ := cons_ofW hl41
                obtain ⟨z43, r43, rfl, hl43⟩ := cons_ofW hl42
                obtain ⟨z44, r44, rfl, hl44⟩ := cons_ofW hl43
                obtain ⟨z45, r45, rfl, hl45⟩ := cons_ofW hl44
                obtain rfl := List.length_eq_zero_iff.1 hl45
                exact ⟨z0, z1, z2, z3, z4, z5, z6, z7, z8, z9, z10, z11, z12, z13, z14, z15, z16, z17, z18, z19, z20, z21, z22, z23, z24, z25, z26, z27, z28, z29, z30, z31, z32, z33, z34, z35, z36, z37, z38, z39, z40, z41, z42, z43, z44, z45, rfl⟩
              obtain rfl : z45 = .bool true := h45
              have B5 : Hid (Below w.heap.size w w5) := HB0.out.trans (b5.mono HB0.out.size)
              obtain ⟨x0, x1, x2, x3, x4, x5, x6⟩ := evat (row_stays HR.out b5)
              simp only [regR3_6_ds, putAll, List.setIfInBounds_toArray, List.set_cons_succ, List.set_cons_zero]
              clear HYES HNO hu b5 HNM HBR HNB HEB HR HB0
              subst hRf
              go_wp2_with fail
              go_ret
              exact ⟨rfl, B5.out⟩
          · have hRf := HNO.out (fun hh => q5 (by omega))
            refine regR3_5 rfl _ (by simp) W0 g kn kd th tx pl v x why T b0 b1 b2 b3 b4 b5 b6 HKN.out (fun wx h => row_stays HR.out h) (fun wx h => HNM.out wx (HB0.out.trans (h.mono HB0.out.size))) (fun wx _ => HBR.out wx) (nm_full q1.1 q1.2) (decide_eq_false (by omega)) (decide_eq_false (by omega)) (HEB.out q4) (decide_eq_true (by omega)) rfl rfl ?_
            intro us w5 hu b5 h45
            obtain ⟨z0, z1, z2, z3, z4, z5, z6, z7, z8, z9, z10, z11, z12, z13, z14, z15, z16, z17, z18, z19, z20, z21, z22, z23, z24, z25, z26, z27, z28, z29, z30, z31, z32, z33, z34, z35, z36, z37, z38, z39, z40, z41, z42, z43, z44, z45, rfl⟩ : ∃ z0 z1 z2 z3 z4 z5 z6 z7 z8 z9 z10 z11 z12 z13 z14 z15 z16 z17 z18 z19 z20 z21 z22 z23 z24 z25 z26 z27 z28 z29 z30 z31 z32 z33 z34 z35 z36 z37 z38 z39 z40 z41 z42 z43 z44 z45 : Value, us = [z0, z1, z2, z3, z4, z5, z6, z7, z8, z9, z10, z11, z12, z13, z14, z15, z16, z17, z18, z19, z20, z21, z22, z23, z24, z25, z26, z27, z28, z29, z30, z31, z32, z33, z34, z35, z36, z37, z38, z39, z40, z41, z42, z43, z44, z45] := by
              obtain ⟨z0, r0, rfl, hl0⟩ := cons_ofW hu
              obtain ⟨z1, r1, rfl, hl1⟩ := cons_ofW hl0
              obtain ⟨z2, r2, rfl, hl2⟩ := cons_ofW hl1
              obtain ⟨z3, r3, rfl, hl3⟩ := cons_ofW hl2
              obtain ⟨z4, r4, rfl, hl4⟩ := cons_ofW hl3
              obtain ⟨z5, r5, rfl, hl5⟩ := cons_ofW hl4
              obtain ⟨z6, r6, rfl, hl6⟩ := cons_ofW hl5
              obtain ⟨z7, r7, rfl, hl7⟩ := cons_ofW hl6
              obtain ⟨z8, r8, rfl, hl8⟩ := cons_ofW hl7
              obtain ⟨z9, r9, rfl, hl9⟩ := cons_ofW hl8
              obtain ⟨z10, r10, rfl, hl10⟩ := cons_ofW hl9
              obtain ⟨z11, r11, rfl, hl11⟩ := cons_ofW hl10
              obtain ⟨z12, r12, rfl, hl12⟩ := cons_ofW hl11
              obtain ⟨z13, r13, rfl, hl13⟩ := cons_ofW hl12
              obtain ⟨z14, r14, rfl, hl14⟩ := cons_ofW hl13
              obtain ⟨z15, r15, rfl, hl15⟩ := cons_ofW hl14
              obtain ⟨z16, r16, rfl, hl16⟩ := cons_ofW hl15
              obtain ⟨z17, r17, rfl, hl17⟩ := cons_ofW hl16
              obtain ⟨z18, r18, rfl, hl18⟩ := cons_ofW hl17
              obtain ⟨z19, r19, rfl, hl19⟩ := cons_ofW hl18
              obtain ⟨z20, r20, rfl, hl20⟩ := cons_ofW hl19
              obtain ⟨z21, r21, rfl, hl21⟩ := cons_ofW hl20
              obtain ⟨z22, r22, rfl, hl22⟩ := cons_ofW hl21
              obtain ⟨z23, r23, rfl, hl23⟩ := cons_ofW hl22
              obtain ⟨z24, r24, rfl, hl24⟩ := cons_ofW hl23
              obtain ⟨z25, r25, rfl, hl25⟩ := cons_ofW hl24
              obtain ⟨z26, r26, rfl, hl26⟩ := cons_ofW hl25
              obtain ⟨z27, r27, rfl, hl27⟩ := cons_ofW hl26
              obtain ⟨z28, r28, rfl, hl28⟩ := cons_ofW hl27
              obtain ⟨z29, r29, rfl, hl29⟩ := cons_ofW hl28
              obtain ⟨z30, r30, rfl, hl30⟩ := cons_ofW hl29
              obtain ⟨z31, r31, rfl, hl31⟩ := cons_ofW hl30
              obtain ⟨z32, r32, rfl, hl32⟩ := cons_ofW hl31
              obtain ⟨z33, r33, rfl, hl33⟩ := cons_ofW hl32
              obtain ⟨z34, r34, rfl, hl34⟩ := cons_ofW hl33
              obtain ⟨z35, r35, rfl, hl35⟩ := cons_ofW hl34
              obtain ⟨z36, r36, rfl, hl36⟩ := cons_ofW hl35
              obtain ⟨z37, r37, rfl, hl37⟩ := cons_ofW hl36
              obtain ⟨z38, r38, rfl, hl38⟩ := cons_ofW hl37
              obtain ⟨z39, r39, rfl, hl39⟩ := cons_ofW hl38
              obtain ⟨z40, r40, rfl, hl40⟩ := cons_ofW hl39
              obtain ⟨z41, r41, rfl, hl41⟩ := cons_ofW hl40
              obtain ⟨z42, r42, rfl, hl42⟩ := cons_ofW hl41
              obtain ⟨z43, r43, rfl, hl43⟩ := cons_ofW hl42
              obtain ⟨z44, r44, rfl, hl44⟩ := cons_ofW hl43
              obtain ⟨z45, r45, rfl, hl45⟩ := cons_ofW hl44
              obtain rfl := List.length_eq_zero_iff.1 hl45
              exact ⟨z0, z1, z2, z3, z4, z5, z6, z7, z8, z9, z10, z11, z12, z13, z14, z15, z16, z17, z18, z19, z20, z21, z22, z23, z24, z25, z26, z27, z28, z29, z30, z31, z32, z33, z34, z35, z36, z37, z38, z39, z40, z41, z42, z43, z44, z45, rfl⟩
            obtain rfl : z45 = .bool true := h45
            have B5 : Hid (Below w.heap.size w w5) := HB0.out.trans (b5.mono HB0.out.size)
            obtain ⟨x0, x1, x2, x3, x4, x5, x6⟩ := evat (row_stays HR.out b5)
            simp only [regR3_5_ds, putAll, List.setIfInBounds_toArray, List.set_cons_succ, List.set_cons_zero]
            clear HYES HNO hu b5 HNM HBR HNB HEB HR HB0
            subst hRf
            go_wp2_with fail
            go_ret
            exact ⟨rfl, B5.out⟩
        · have hRf := HNO.out (fun hh => q4 hh.2.2.1)
          refine regR3_4 rfl _ (by simp) W0 g kn kd th tx pl v x why T b0 b1 b2 b3 b4 b5 b6 HKN.out (fun wx h => row_stays HR.out h) (fun wx h => HNM.out wx (HB0.out.trans (h.mono HB0.out.size))) (fun wx _ => HBR.out wx) (nm_full q1.1 q1.2) (decide_eq_false (by omega)) (decide_eq_false (by omega)) (HNB.out q4) rfl rfl ?_
          intro us w5 hu b5 h45
          obtain ⟨z0, z1, z2, z3, z4, z5, z6, z7, z8, z9, z10, z11, z12, z13, z14, z15, z16, z17, z18, z19, z20, z21, z22, z23, z24, z25, z26, z27, z28, z29, z30, z31, z32, z33, z34, z35, z36, z37, z38, z39, z40, z41, z42, z43, z44, z45, rfl⟩ : ∃ z0 z1 z2 z3 z4 z5 z6 z7 z8 z9 z10 z11 z12 z13 z14 z15 z16 z17 z18 z19 z20 z21 z22 z23 z24 z25 z26 z27 z28 z29 z30 z31 z32 z33 z34 z35 z36 z37 z38 z39 z40 z41 z42 z43 z44 z45 : Value, us = [z0, z1, z2, z3, z4, z5, z6, z7, z8, z9, z10, z11, z12, z13, z14, z15, z16, z17, z18, z19, z20, z21, z22, z23, z24, z25, z26, z27, z28, z29, z30, z31, z32, z33, z34, z35, z36, z37, z38, z39, z40, z41, z42, z43, z44, z45] := by
            obtain ⟨z0, r0, rfl, hl0⟩ := cons_ofW hu
            obtain ⟨z1, r1, rfl, hl1⟩ := cons_ofW hl0
            obtain ⟨z2, r2, rfl, hl2⟩ := cons_ofW hl1
            obtain ⟨z3, r3, rfl, hl3⟩ := cons_ofW hl2
            obtain ⟨z4, r4, rfl, hl4⟩ := cons_ofW hl3
            obtain ⟨z5, r5, rfl, hl5⟩ := cons_ofW hl4
            obtain ⟨z6, r6, rfl, hl6⟩ := cons_ofW hl5
            obtain ⟨z7, r7, rfl, hl7⟩ := cons_ofW hl6
            obtain ⟨z8, r8, rfl, hl8⟩ := cons_ofW hl7
            obtain ⟨z9, r9, rfl, hl9⟩ := cons_ofW hl8
            obtain ⟨z10, r10, rfl, hl10⟩ := cons_ofW hl9
            obtain ⟨z11, r11, rfl, hl11⟩ := cons_ofW hl10
            obtain ⟨z12, r12, rfl, hl12⟩ := cons_ofW hl11
            obtain ⟨z13, r13, rfl, hl13⟩ := cons_ofW hl12
            obtain ⟨z14, r14, rfl, hl14⟩ := cons_ofW hl13
            obtain ⟨z15, r15, rfl, hl15⟩ := cons_ofW hl14
            obtain ⟨z16, r16, rfl, hl16⟩ := cons_ofW hl15
            obtain ⟨z17, r17, rfl, hl17⟩ := cons_ofW hl16
            obtain ⟨z18, r18, rfl, hl18⟩ := cons_ofW hl17
            obtain ⟨z19, r19, rfl, hl19⟩ := cons_ofW hl18
            obtain ⟨z20, r20, rfl, hl20⟩ := cons_ofW hl19
            obtain ⟨z21, r21, rfl, hl21⟩ := cons_ofW hl20
            obtain ⟨z22, r22, rfl, hl22⟩ := cons_ofW hl21
            obtain ⟨z23, r23, rfl, hl23⟩ := cons_ofW hl22
            obtain ⟨z24, r24, rfl, hl24⟩ := cons_ofW hl23
            obtain ⟨z25, r25, rfl, hl25⟩ := cons_ofW hl24
            obtain ⟨z26, r26, rfl, hl26⟩ := cons_ofW hl25
            obtain ⟨z27, r27, rfl, hl27⟩ := cons_ofW hl26
            obtain ⟨z28, r28, rfl, hl28⟩ := cons_ofW hl27
            obtain ⟨z29, r29, rfl, hl29⟩ := cons_ofW hl28
            obtain ⟨z30, r30, rfl, hl30⟩ := cons_ofW hl29
            obtain ⟨z31, r31, rfl, hl31⟩ := cons_ofW hl30
            obtain ⟨z32, r32, rfl, hl32⟩ := cons_ofW hl31
            obtain ⟨z33, r33, rfl, hl33⟩ := cons_ofW hl32
            obtain ⟨z34, r34, rfl, hl34⟩ := cons_ofW hl33
            obtain ⟨z35, r35, rfl, hl35⟩ := cons_ofW hl34
            obtain ⟨z36, r36, rfl, hl36⟩ := cons_ofW hl35
            obtain ⟨z37, r37, rfl, hl37⟩ := cons_ofW hl36
            obtain ⟨z38, r38, rfl, hl38⟩ := cons_ofW hl37
            obtain ⟨z39, r39, rfl, hl39⟩ := cons_ofW hl38
            obtain ⟨z40, r40, rfl, hl40⟩ := cons_ofW hl39
            obtain ⟨z41, r41, rfl, hl41⟩ := cons_ofW hl40
            obtain ⟨z42, r42, rfl, hl42⟩ := cons_ofW hl41
            obtain ⟨z43, r43, rfl, hl43⟩ := cons_ofW hl42
            obtain ⟨z44, r44, rfl, hl44⟩ := cons_ofW hl43
            obtain ⟨z45, r45, rfl, hl45⟩ := cons_ofW hl44
            obtain rfl := List.length_eq_zero_iff.1 hl45
            exact ⟨z0, z1, z2, z3, z4, z5, z6, z7, z8, z9, z10, z11, z12, z13, z14, z15, z16, z17, z18, z19, z20, z21, z22, z23, z24, z25, z26, z27, z28, z29, z30, z31, z32, z33, z34, z35, z36, z37, z38, z39, z40, z41, z42, z43, z44, z45, rfl⟩
          obtain rfl : z45 = .bool true := h45
          have B5 : Hid (Below w.heap.size w w5) := HB0.out.trans (b5.mono HB0.out.size)
          obtain ⟨x0, x1, x2, x3, x4, x5, x6⟩ := evat (row_stays HR.out b5)
          simp only [regR3_4_ds, putAll, List.setIfInBounds_toArray, List.set_cons_succ, List.set_cons_zero]
          clear HYES HNO hu b5 HNM HBR HNB HEB HR HB0
          subst hRf
          go_wp2_with fail
          go_ret
          exact ⟨rfl, B5.out⟩
      · have hRf := HNO.out (fun hh => q3 (by omega))
        refine regR3_3 rfl _ (by simp) W0 g kn kd th tx pl v x why T b0 b1 b2 b3 b4 b5 b6 HKN.out (fun wx h => row_stays HR.out h) (fun wx h => HNM.out wx (HB0.out.trans (h.mono HB0.out.size))) (fun wx _ => HBR.out wx) (nm_full q1.1 q1.2) (decide_eq_false (by omega)) (decide_eq_true (by omega)) rfl rfl ?_
        intro us w5 hu b5 h45
        obtain ⟨z0, z1, z2, z3, z4, z5, z6, z7, z8, z9, z10, z11, z12, z13, z14, z15, z16, z17, z18, z19, z20, z21, z22, z23, z24, z25, z26, z27, z28, z29, z30, z31, z32, z33, z34, z35, z36, z37, z38, z39, z40, z41, z42, z43, z44, z45, rfl⟩ : ∃ z0 z1 z2 z3 z4 z5 z6 z7 z8 z9 z10 z11 z12 z13 z14 z15 z16 z17 z18 z19 z20 z21 z22 z23 z24 z25 z26 z27 z28 z29 z30 z31 z32 z33 z34 z35 z36 z37 z38 z39 z40 z41 z42 z43 z44 z45 : Value, us = [z0, z1, z2, z3, z4, z5, z6, z7, z8, z9, z10, z11, z12, z13, z14, z15, z16, z17, z18, z19, z20, z21, z22, z23, z24, z25, z26, z27, z28, z29, z30, z31, z32, z33, z34, z35, z36, z37, z38, z39, z40, z41, z42, z43, z44, z45] := by
          obtain ⟨z0, r0, rfl, hl0⟩ := cons_ofW hu
          obtain ⟨z1, r1, rfl, hl1⟩ := cons_ofW hl0
          obtain ⟨z2, r2, rfl, hl2⟩ := cons_ofW hl1
          obtain ⟨z3, r3, rfl, hl3⟩ := cons_ofW hl2
          obtain ⟨z4, r4, rfl, hl4⟩ := cons_ofW hl3
          obtain ⟨z5, r5, rfl, hl5⟩ := cons_ofW hl4
          obtain ⟨z6, r6, rfl, hl6⟩ := cons_ofW hl5
          obtain ⟨z7, r7, rfl, hl7⟩ := cons_ofW hl6
          obtain ⟨z8, r8, rfl, hl8⟩ := cons_ofW hl7
          obtain ⟨z9, r9, rfl, hl9⟩ := cons_ofW hl8
          obtain ⟨z10, r10, rfl, hl10⟩ := cons_ofW hl9
          obtain ⟨z11, r11, rfl, hl11⟩ := cons_ofW hl10
          obtain ⟨z12, r12, rfl, hl12⟩ := cons_ofW hl11
          obtain ⟨z13, r13, rfl, hl13⟩ := cons_ofW hl12
          obtain ⟨z14, r14, rfl, hl14⟩ := cons_ofW hl13
          obtain ⟨z15, r15, rfl, hl15⟩ := cons_ofW hl14
          obtain ⟨z16, r16, rfl, hl16⟩ := cons_ofW hl15
          obtain ⟨z17, r17, rfl, hl17⟩ := cons_ofW hl16
          obtain ⟨z18, r18, rfl, hl18⟩ := cons_ofW hl17
          obtain ⟨z19, r19, rfl, hl19⟩ := cons_ofW hl18
          obtain ⟨z20, r20, rfl, hl20⟩ := cons_ofW hl19
          obtain ⟨z21, r21, rfl, hl21⟩ := cons_ofW hl20
          obtain ⟨z22, r22, rfl, hl22⟩ := cons_ofW hl21
          obtain ⟨z23, r23, rfl, hl23⟩ := cons_ofW hl22
          obtain ⟨z24, r24, rfl, hl24⟩ := cons_ofW hl23
          obtain ⟨z25, r25, rfl, hl25⟩ := cons_ofW hl24
          obtain ⟨z26, r26, rfl, hl26⟩ := cons_ofW hl25
          obtain ⟨z27, r27, rfl, hl27⟩ := cons_ofW hl26
          obtain ⟨z28, r28, rfl, hl28⟩ := cons_ofW hl27
          obtain ⟨z29, r29, rfl, hl29⟩ := cons_ofW hl28
          obtain ⟨z30, r30, rfl, hl30⟩ := cons_ofW hl29
          obtain ⟨z31, r31, rfl, hl31⟩ := cons_ofW hl30
          obtain ⟨z32, r32, rfl, hl32⟩ := cons_ofW hl31
          obtain ⟨z33, r33, rfl, hl33⟩ := cons_ofW hl32
          obtain ⟨z34, r34, rfl, hl34⟩ := cons_ofW hl33
          obtain ⟨z35, r35, rfl, hl35⟩ := cons_ofW hl34
          obtain ⟨z36, r36, rfl, hl36⟩ := cons_ofW hl35
          obtain ⟨z37, r37, rfl, hl37⟩ := cons_ofW hl36
          obtain ⟨z38, r38, rfl, hl38⟩ := cons_ofW hl37
          obtain ⟨z39, r39, rfl, hl39⟩ := cons_ofW hl38
          obtain ⟨z40, r40, rfl, hl40⟩ := cons_ofW hl39
          obtain ⟨z41, r41, rfl, hl41⟩ := cons_ofW hl40
          obtain ⟨z42, r42, rfl, hl42⟩ := cons_ofW hl41
          obtain ⟨z43, r43, rfl, hl43⟩ := cons_ofW hl42
          obtain ⟨z44, r44, rfl, hl44⟩ := cons_ofW hl43
          obtain ⟨z45, r45, rfl, hl45⟩ := cons_ofW hl44
          obtain rfl := List.length_eq_zero_iff.1 hl45
          exact ⟨z0, z1, z2, z3, z4, z5, z6, z7, z8, z9, z10, z11, z12, z13, z14, z15, z16, z17, z18, z19, z20, z21, z22, z23, z24, z25, z26, z27, z28, z29, z30, z31, z32, z33, z34, z35, z36, z37, z38, z39, z40, z41, z42, z43, z44, z45, rfl⟩
        obtain rfl : z45 = .bool true := h45
        have B5 : Hid (Below w.heap.size w w5) := HB0.out.trans (b5.mono HB0.out.size)
        obtain ⟨x0, x1, x2, x3, x4, x5, x6⟩ := evat (row_stays HR.out b5)
        simp only [regR3_3_ds, putAll, List.setIfInBounds_toArray, List.set_cons_succ, List.set_cons_zero]
        clear HYES HNO hu b5 HNM HBR HNB HEB HR HB0
        subst hRf
        go_wp2_with fail
        go_ret
        exact ⟨rfl, B5.out⟩
    · have hRf := HNO.out (fun hh => q2 (by omega))
      refine regR3_2 rfl _ (by simp) W0 g kn kd th tx pl v x why T b0 b1 b2 b3 b4 b5 b6 HKN.out (fun wx h => row_stays HR.out h) (fun wx h => HNM.out wx (HB0.out.trans (h.mono HB0.out.size))) (fun wx _ => HBR.out wx) (nm_full q1.1 q1.2) (decide_eq_true (by omega)) rfl rfl ?_
      intro us w5 hu b5 h45
      obtain ⟨z0, z1, z2, z3, z4, z5, z6, z7, z8, z9, z10, z11, z12, z13, z14, z15, z16, z17, z18, z19, z20, z21, z22, z23, z24, z25, z26, z27, z28, z29, z30, z31, z32, z33, z34, z35, z36, z37, z38, z39, z40, z41, z42, z43, z44, z45, rfl⟩ : ∃ z0 z1 z2 z3 z4 z5 z6 z7 z8 z9 z10 z11 z12 z13 z14 z15 z16 z17 z18 z19 z20 z21 z22 z23 z24 z25 z26 z27 z28 z29 z30 z31 z32 z33 z34 z35 z36 z37 z38 z39 z40 z41 z42 z43 z44 z45 : Value, us = [z0, z1, z2, z3, z4, z5, z6, z7, z8, z9, z10, z11, z12, z13, z14, z15, z16, z17, z18, z19, z20, z21, z22, z23, z24, z25, z26, z27, z28, z29, z30, z31, z32, z33, z34, z35, z36, z37, z38, z39, z40, z41, z42, z43, z44, z45] := by
        obtain ⟨z0, r0, rfl, hl0⟩ := cons_ofW hu
        obtain ⟨z1, r1, rfl, hl1⟩ := cons_ofW hl0
        obtain ⟨z2, r2, rfl, hl2⟩ := cons_ofW hl1
        obtain ⟨z3, r3, rfl, hl3⟩ := cons_ofW hl2
        obtain ⟨z4, r4, rfl, hl4⟩ := cons_ofW hl3
        obtain ⟨z5, r5, rfl, hl5⟩ := cons_ofW hl4
        obtain ⟨z6, r6, rfl, hl6⟩ := cons_ofW hl5
        obtain ⟨z7, r7, rfl, hl7⟩ := cons_ofW hl6
        obtain ⟨z8, r8, rfl, hl8⟩ := cons_ofW hl7
        obtain ⟨z9, r9, rfl, hl9⟩ := cons_ofW hl8
        obtain ⟨z10, r10, rfl, hl10⟩ := cons_ofW hl9
        obtain ⟨z11, r11, rfl, hl11⟩ := cons_ofW hl10
        obtain ⟨z12, r12, rfl, hl12⟩ := cons_ofW hl11
        obtain ⟨z13, r13, rfl, hl13⟩ := cons_ofW hl12
        obtain ⟨z14, r14, rfl, hl14⟩ := cons_ofW hl13
        obtain ⟨z15, r15, rfl, hl15⟩ := cons_ofW hl14
        obtain ⟨z16, r16, rfl, hl16⟩ := cons_ofW hl15
        obtain ⟨z17, r17, rfl, hl17⟩ := cons_ofW hl16
        obtain ⟨z18, r18, rfl, hl18⟩ := cons_ofW hl17
        obtain ⟨z19, r19, rfl, hl19⟩ := cons_ofW hl18
        obtain ⟨z20, r20, rfl, hl20⟩ := cons_ofW hl19
        obtain ⟨z21, r21, rfl, hl21⟩ := cons_ofW hl20
        obtain ⟨z22, r22, rfl, hl22⟩ := cons_ofW hl21
        obtain ⟨z23, r23, rfl, hl23⟩ := cons_ofW hl22
        obtain ⟨z24, r24, rfl, hl24⟩ := cons_ofW hl23
        obtain ⟨z25, r25, rfl, hl25⟩ := cons_ofW hl24
        obtain ⟨z26, r26, rfl, hl26⟩ := cons_ofW hl25
        obtain ⟨z27, r27, rfl, hl27⟩ := cons_ofW hl26
        obtain ⟨z28, r28, rfl, hl28⟩ := cons_ofW hl27
        obtain ⟨z29, r29, rfl, hl29⟩ := cons_ofW hl28
        obtain ⟨z30, r30, rfl, hl30⟩ := cons_ofW hl29
        obtain ⟨z31, r31, rfl, hl31⟩ := cons_ofW hl30
        obtain ⟨z32, r32, rfl, hl32⟩ := cons_ofW hl31
        obtain ⟨z33, r33, rfl, hl33⟩ := cons_ofW hl32
        obtain ⟨z34, r34, rfl, hl34⟩ := cons_ofW hl33
        obtain ⟨z35, r35, rfl, hl35⟩ := cons_ofW hl34
        obtain ⟨z36, r36, rfl, hl36⟩ := cons_ofW hl35
        obtain ⟨z37, r37, rfl, hl37⟩ := cons_ofW hl36
        obtain ⟨z38, r38, rfl, hl38⟩ := cons_ofW hl37
        obtain ⟨z39, r39, rfl, hl39⟩ := cons_ofW hl38
        obtain ⟨z40, r40, rfl, hl40⟩ := cons_ofW hl39
        obtain ⟨z41, r41, rfl, hl41⟩ := cons_ofW hl40
        obtain ⟨z42, r42, rfl, hl42⟩ := cons_ofW hl41
        obtain ⟨z43, r43, rfl, hl43⟩ := cons_ofW hl42
        obtain ⟨z44, r44, rfl, hl44⟩ := cons_ofW hl43
        obtain ⟨z45, r45, rfl, hl45⟩ := cons_ofW hl44
        obtain rfl := List.length_eq_zero_iff.1 hl45
        exact ⟨z0, z1, z2, z3, z4, z5, z6, z7, z8, z9, z10, z11, z12, z13, z14, z15, z16, z17, z18, z19, z20, z21, z22, z23, z24, z25, z26, z27, z28, z29, z30, z31, z32, z33, z34, z35, z36, z37, z38, z39, z40, z41, z42, z43, z44, z45, rfl⟩
      obtain rfl : z45 = .bool true := h45
      have B5 : Hid (Below w.heap.size w w5) := HB0.out.trans (b5.mono HB0.out.size)
      obtain ⟨x0, x1, x2, x3, x4, x5, x6⟩ := evat (row_stays HR.out b5)
      simp only [regR3_2_ds, putAll, List.setIfInBounds_toArray, List.set_cons_succ, List.set_cons_zero]
      clear HYES HNO hu b5 HNM HBR HNB HEB HR HB0
      subst hRf
      go_wp2_with fail
      go_ret
      exact ⟨rfl, B5.out⟩
  · have hRf := HNO.out (fun hh => q1 ⟨by have := HKN.out; have := hh.1; omega, by have := HKN.out; have := hh.1; omega⟩)
    refine regR3_1 rfl _ (by simp) W0 g kn kd th tx pl v x why T b0 b1 b2 b3 b4 b5 b6 HKN.out (fun wx h => row_stays HR.out h) (fun wx h => HNM.out wx (HB0.out.trans (h.mono HB0.out.size))) (fun wx _ => HBR.out wx) (nm_none q1) rfl rfl ?_
    intro us w5 hu b5 h45
    obtain ⟨z0, z1, z2, z3, z4, z5, z6, z7, z8, z9, z10, z11, z12, z13, z14, z15, z16, z17, z18, z19, z20, z21, z22, z23, z24, z25, z26, z27, z28, z29, z30, z31, z32, z33, z34, z35, z36, z37, z38, z39, z40, z41, z42, z43, z44, z45, rfl⟩ : ∃ z0 z1 z2 z3 z4 z5 z6 z7 z8 z9 z10 z11 z12 z13 z14 z15 z16 z17 z18 z19 z20 z21 z22 z23 z24 z25 z26 z27 z28 z29 z30 z31 z32 z33 z34 z35 z36 z37 z38 z39 z40 z41 z42 z43 z44 z45 : Value, us = [z0, z1, z2, z3, z4, z5, z6, z7, z8, z9, z10, z11, z12, z13, z14, z15, z16, z17, z18, z19, z20, z21, z22, z23, z24, z25, z26, z27, z28, z29, z30, z31, z32, z33, z34, z35, z36, z37, z38, z39, z40, z41, z42, z43, z44, z45] := by
      obtain ⟨z0, r0, rfl, hl0⟩ := cons_ofW hu
      obtain ⟨z1, r1, rfl, hl1⟩ := cons_ofW hl0
      obtain ⟨z2, r2, rfl, hl2⟩ := cons_ofW hl1
      obtain ⟨z3, r3, rfl, hl3⟩ := cons_ofW hl2
      obtain ⟨z4, r4, rfl, hl4⟩ := cons_ofW hl3
      obtain ⟨z5, r5, rfl, hl5⟩ := cons_ofW hl4
      obtain ⟨z6, r6, rfl, hl6⟩ := cons_ofW hl5
      obtain ⟨z7, r7, rfl, hl7⟩ := cons_ofW hl6
      obtain ⟨z8, r8, rfl, hl8⟩ := cons_ofW hl7
      obtain ⟨z9, r9, rfl, hl9⟩ := cons_ofW hl8
      obtain ⟨z10, r10, rfl, hl10⟩ := cons_ofW hl9
      obtain ⟨z11, r11, rfl, hl11⟩ := cons_ofW hl10
      obtain ⟨z12, r12, rfl, hl12⟩ := cons_ofW hl11
      obtain ⟨z13, r13, rfl, hl13⟩ := cons_ofW hl12
      obtain ⟨z14, r14, rfl, hl14⟩ := cons_ofW hl13
      obtain ⟨z15, r15, rfl, hl15⟩ := cons_ofW hl14
      obtain ⟨z16, r16, rfl, hl16⟩ := cons_ofW hl15
      obtain ⟨z17, r17, rfl, hl17⟩ := cons_ofW hl16
      obtain ⟨z18, r18, rfl, hl18⟩ := cons_ofW hl17
      obtain ⟨z19, r19, rfl, hl19⟩ := cons_ofW hl18
      obtain ⟨z20, r20, rfl, hl20⟩ := cons_ofW hl19
      obtain ⟨z21, r21, rfl, hl21⟩ := cons_ofW hl20
      obtain ⟨z22, r22, rfl, hl22⟩ := cons_ofW hl21
      obtain ⟨z23, r23, rfl, hl23⟩ := cons_ofW hl22
      obtain ⟨z24, r24, rfl, hl24⟩ := cons_ofW hl23
      obtain ⟨z25, r25, rfl, hl25⟩ := cons_ofW hl24
      obtain ⟨z26, r26, rfl, hl26⟩ := cons_ofW hl25
      obtain ⟨z27, r27, rfl, hl27⟩ := cons_ofW hl26
      obtain ⟨z28, r28, rfl, hl28⟩ := cons_ofW hl27
      obtain ⟨z29, r29, rfl, hl29⟩ := cons_ofW hl28
      obtain ⟨z30, r30, rfl, hl30⟩ := cons_ofW hl29
      obtain ⟨z31, r31, rfl, hl31⟩ := cons_ofW hl30
      obtain ⟨z32, r32, rfl, hl32⟩ := cons_ofW hl31
      obtain ⟨z33, r33, rfl, hl33⟩ := cons_ofW hl32
      obtain ⟨z34, r34, rfl, hl34⟩ := cons_ofW hl33
      obtain ⟨z35, r35, rfl, hl35⟩ := cons_ofW hl34
      obtain ⟨z36, r36, rfl, hl36⟩ := cons_ofW hl35
      obtain ⟨z37, r37, rfl, hl37⟩ := cons_ofW hl36
      obtain ⟨z38, r38, rfl, hl38⟩ := cons_ofW hl37
      obtain ⟨z39, r39, rfl, hl39⟩ := cons_ofW hl38
      obtain ⟨z40, r40, rfl, hl40⟩ := cons_ofW hl39
      obtain ⟨z41, r41, rfl, hl41⟩ := cons_ofW hl40
      obtain ⟨z42, r42, rfl, hl42⟩ := cons_ofW hl41
      obtain ⟨z43, r43, rfl, hl43⟩ := cons_ofW hl42
      obtain ⟨z44, r44, rfl, hl44⟩ := cons_ofW hl43
      obtain ⟨z45, r45, rfl, hl45⟩ := cons_ofW hl44
      obtain rfl := List.length_eq_zero_iff.1 hl45
      exact ⟨z0, z1, z2, z3, z4, z5, z6, z7, z8, z9, z10, z11, z12, z13, z14, z15, z16, z17, z18, z19, z20, z21, z22, z23, z24, z25, z26, z27, z28, z29, z30, z31, z32, z33, z34, z35, z36, z37, z38, z39, z40, z41, z42, z43, z44, z45, rfl⟩
    obtain rfl : z45 = .bool true := h45
    have B5 : Hid (Below w.heap.size w w5) := HB0.out.trans (b5.mono HB0.out.size)
    obtain ⟨x0, x1, x2, x3, x4, x5, x6⟩ := evat (row_stays HR.out b5)
    simp only [regR3_1_ds, putAll, List.setIfInBounds_toArray, List.set_cons_succ, List.set_cons_zero]
    clear HYES HNO hu b5 HNM HBR HNB HEB HR HB0
    subst hRf
    go_wp2_with fail
    go_ret
    exact ⟨rfl, B5.out⟩
theorem rmay_any (e : Ev) (ok : EvOk e) (T V S : Int) (w : World) (he : Er w) :
    Calls Tryd.prog 16 #[evV e, .int .i64 T, .int .i64 V, .int .i64 S] w fun r w' => r = .returned (.bool (mayB e T V S)) ∧ Below w.heap.size w w' := by
  by_cases h : 1 ≤ T ∧ T ≤ 6 ∧ 1 ≤ V ∧ V ≤ 32 ∧ 1 ≤ S ∧ S ≤ V
  · exact rmay_yes e ok T V S h w he
  · rw [show mayB e T V S = false from Bool.eq_false_iff.2 fun hm => h (may_need hm).1]
    exact rmay_no e T V S h w
end Go.Proofs.YtfbnigikofidoaaDoor
