/-
  ReadsetPlays: for every input the call returns true, and each argument reads behind it as before. No condition. (Whatever is added, each answer is the document's, and what a set has; a copy goes its own way.)
-/
import Derived.Test.YtmjaphcofimbeaaGs
import Derived.Test.YtmjaphcofimbeaaLift
namespace Go.Proofs.Ytmjaphcofimbeaa
set_option maxRecDepth 100000
open Go.RowKit Go.Deep
open Go.ChangeShapes Go.WideShapes
set_option linter.unusedVariables false
set_option maxHeartbeats 4000000 in
theorem plays_big (rv st : Int) (A : Option Addr) (c : Nat) (L : List Int) (hl : L.length ≤ 9223372036854775807) (h : 300 < L.length) (w : World) : Calls Try.prog 3 #[.int .i64 rv, .int .i64 st, .slice A L.length c] w fun e w' => e = .returned (.bool true) ∧ Below w.heap.size w w' := by
  have HA := Lib.hid (awake10_any w)
  have q1 : (300 : Int) < (L.length : Int) := by omega
  go_enter Try.func3, Try.ntmps3
  go_wp2_with fail
  refine HA.out.mono ?_
  rintro e w' ⟨rfl, hb⟩
  go_wp2_with fail
  go_ret
  exact ⟨rfl, hb⟩
set_option maxHeartbeats 4000000 in
theorem plays_no (rv st : Int) (hbad : rv < 0 ∨ 1099511627776 < rv ∨ st < 1 ∨ 32 < st) (A : Option Addr) (c : Nat) (L : List Int) (h : L.length ≤ 300) (w : World) : Calls Try.prog 3 #[.int .i64 rv, .int .i64 st, .slice A L.length c] w fun e w' => e = .returned (.bool true) ∧ Below w.heap.size w w' := by
  have HA := Lib.hid (awake10_any w)
  have H1 := Lib.hid (new_no rv st hbad w)
  have H2 := Lib.hid (rnew_no rv st hbad w)
  have q1 : ¬ (300 : Int) < (L.length : Int) := by omega
  clear hbad
  go_enter Try.func3, Try.ntmps3
  go_wp2_with fail
  refine H1.out.mono ?_
  rintro e w' ⟨rfl, rfl⟩
  go_wp2_with fail
  refine H2.out.mono ?_
  rintro e w' ⟨rfl, rfl⟩
  go_wp2_with fail
  refine HA.out.mono ?_
  rintro e w' ⟨rfl, hb⟩
  go_wp2_with fail
  go_ret
  exact ⟨rfl, hb⟩
theorem cons_of {us : List Value} {n : Nat} (h : us.length = n + 1) : ∃ z r, us = z :: r ∧ r.length = n := by
  cases us with
  | nil => cases h
  | cons z r => exact ⟨z, r, rfl, by simpa using h⟩
theorem list74 {us : List Value} (h : us.length = 74) : ∃ z0 z1 z2 z3 z4 z5 z6 z7 z8 z9 z10 z11 z12 z13 z14 z15 z16 z17 z18 z19 z20 z21 z22 z23 z24 z25 z26 z27 z28 z29 z30 z31 z32 z33 z34 z35 z36 z37 z38 z39 z40 z41 z42 z43 z44 z45 z46 z47 z48 z49 z50 z51 z52 z53 z54 z55 z56 z57 z58 z59 z60 z61 z62 z63 z64 z65 z66 z67 z68 z69 z70 z71 z72 z73 : Value, us = [z0, z1, z2, z3, z4, z5, z6, z7, z8, z9, z10, z11, z12, z13, z14, z15, z16, z17, z18, z19, z20, z21, z22, z23, z24, z25, z26, z27, z28, z29, z30, z31, z32, z33, z34, z35, z36, z37, z38, z39, z40, z41, z42, z43, z44, z45, z46, z47, z48, z49, z50, z51, z52, z53, z54, z55, z56, z57, z58, z59, z60, z61, z62, z63, z64, z65, z66, z67, z68, z69, z70, z71, z72, z73] := by
  obtain ⟨z0, r0, rfl, h0⟩ := cons_of h
  obtain ⟨z1, r1, rfl, h1⟩ := cons_of h0
  obtain ⟨z2, r2, rfl, h2⟩ := cons_of h1
  obtain ⟨z3, r3, rfl, h3⟩ := cons_of h2
  obtain ⟨z4, r4, rfl, h4⟩ := cons_of h3
  obtain ⟨z5, r5, rfl, h5⟩ := cons_of h4
  obtain ⟨z6, r6, rfl, h6⟩ := cons_of h5
  obtain ⟨z7, r7, rfl, h7⟩ := cons_of h6
  obtain ⟨z8, r8, rfl, h8⟩ := cons_of h7
  obtain ⟨z9, r9, rfl, h9⟩ := cons_of h8
  obtain ⟨z10, r10, rfl, h10⟩ := cons_of h9
  obtain ⟨z11, r11, rfl, h11⟩ := cons_of h10
  obtain ⟨z12, r12, rfl, h12⟩ := cons_of h11
  obtain ⟨z13, r13, rfl, h13⟩ := cons_of h12
  obtain ⟨z14, r14, rfl, h14⟩ := cons_of h13
  obtain ⟨z15, r15, rfl, h15⟩ := cons_of h14
  obtain ⟨z16, r16, rfl, h16⟩ := cons_of h15
  obtain ⟨z17, r17, rfl, h17⟩ := cons_of h16
  obtain ⟨z18, r18, rfl, h18⟩ := cons_of h17
  obtain ⟨z19, r19, rfl, h19⟩ := cons_of h18
  obtain ⟨z20, r20, rfl, h20⟩ := cons_of h19
  obtain ⟨z21, r21, rfl, h21⟩ := cons_of h20
  obtain ⟨z22, r22, rfl, h22⟩ := cons_of h21
  obtain ⟨z23, r23, rfl, h23⟩ := cons_of h22
  obtain ⟨z24, r24, rfl, h24⟩ := cons_of h23
  obtain ⟨z25, r25, rfl, h25⟩ := cons_of h24
  obtain ⟨z26, r26, rfl, h26⟩ := cons_of h25
  obtain ⟨z27, r27, rfl, h27⟩ := cons_of h26
  obtain ⟨z28, r28, rfl, h28⟩ := cons_of h27
  obtain ⟨z29, r29, rfl, h29⟩ := cons_of h28
  obtain ⟨z30, r30, rfl, h30⟩ := cons_of h29
  obtain ⟨z31, r31, rfl, h31⟩ := cons_of h30
  obtain ⟨z32, r32, rfl, h32⟩ := cons_of h31
  obtain ⟨z33, r33, rfl, h33⟩ := cons_of h32
  obtain ⟨z34, r34, rfl, h34⟩ := cons_of h33
  obtain ⟨z35, r35, rfl, h35⟩ := cons_of h34
  obtain ⟨z36, r36, rfl, h36⟩ := cons_of h35
  obtain ⟨z37, r37, rfl, h37⟩ := cons_of h36
  obtain ⟨z38, r38, rfl, h38⟩ := cons_of h37
  obtain ⟨z39, r39, rfl, h39⟩ := cons_of h38
  obtain ⟨z40, r40, rfl, h40⟩ := cons_of h39
  obtain ⟨z41, r41, rfl, h41⟩ := cons_of h40
  obtain ⟨z42, r42, rfl, h42⟩ := cons_of h41
  obtain ⟨z43, r43, rfl, h43⟩ := cons_of h42
  obtain ⟨z44, r44, rfl, h44⟩ := cons_of h43
  obtain ⟨z45, r45, rfl, h45⟩ := cons_of h44
  obtain ⟨z46, r46, rfl, h46⟩ := cons_of h45
  obtain ⟨z47, r47, rfl, h47⟩ := cons_of h46
  obtain ⟨z48, r48, rfl, h48⟩ := cons_of h47
  obtain ⟨z49, r49, rfl, h49⟩ := cons_of h48
  obtain ⟨z50, r50, rfl, h50⟩ := cons_of h49
  obtain ⟨z51, r51, rfl, h51⟩ := cons_of h50
  obtain ⟨z52, r52, rfl, h52⟩ := cons_of h51
  obtain ⟨z53, r53, rfl, h53⟩ := cons_of h52
  obtain ⟨z54, r54, rfl, h54⟩ := cons_of h53
  obtain ⟨z55, r55, rfl, h55⟩ := cons_of h54
  obtain ⟨z56, r56, rfl, h56⟩ := cons_of h55
  obtain ⟨z57, r57, rfl, h57⟩ := cons_of h56
  obtain ⟨z58, r58, rfl, h58⟩ := cons_of h57
  obtain ⟨z59, r59, rfl, h59⟩ := cons_of h58
  obtain ⟨z60, r60, rfl, h60⟩ := cons_of h59
  obtain ⟨z61, r61, rfl, h61⟩ := cons_of h60
  obtain ⟨z62, r62, rfl, h62⟩ := cons_of h61
  obtain ⟨z63, r63, rfl, h63⟩ := cons_of h62
  obtain ⟨z64, r64, rfl, h64⟩ := cons_of h63
  obtain ⟨z65, r65, rfl, h65⟩ := cons_of h64
  obtain ⟨z66, r66, rfl, h66⟩ := cons_of h65
  obtain ⟨z67, r67, rfl, h67⟩ := cons_of h66
  obtain ⟨z68, r68, rfl, h68⟩ := cons_of h67
  obtain ⟨z69, r69, rfl, h69⟩ := cons_of h68
  obtain ⟨z70, r70, rfl, h70⟩ := cons_of h69
  obtain ⟨z71, r71, rfl, h71⟩ := cons_of h70
  obtain ⟨z72, r72, rfl, h72⟩ := cons_of h71
  obtain ⟨z73, r73, rfl, h73⟩ := cons_of h72
  obtain rfl := List.length_eq_zero_iff.1 h73
  exact ⟨_, _, _, _, _, _, _, _, _, _, _, _, _, _, _, _, _, _, _, _, _, _, _, _, _, _, _, _, _, _, _, _, _, _, _, _, _, _, _, _, _, _, _, _, _, _, _, _, _, _, _, _, _, _, _, _, _, _, _, _, _, _, _, _, _, _, _, _, _, _, _, _, _, _, rfl⟩
/-- A row that a call owns, as it is written over. -/
def OwnI (lo : Nat) (A : Option Addr) (n : Nat) (w : World) : Prop := (A = none ∧ n = 0) ∨ ∃ g cur, A = some ⟨g, 0, none⟩ ∧ lo ≤ g ∧ w.heap[g]? = some (.cells cur 3 (0, 0)) ∧ n ≤ cur.size
theorem OwnI.of {w : World} {lo : Nat} {A : Option Addr} {n c : Nat} {xs : List Value} (h : w.ownsRow lo 3 1 (.slice A n c) n xs) : OwnI lo A n w := by
  rcases h.2 with ⟨hv, h0⟩ | ⟨g, cap, cur, hv, hb, hg, h1, h2, h3, _⟩
  · injection hv with e1 e2 e3
    exact .inl ⟨e1, h0⟩
  · injection hv with e1 e2 e3
    exact .inr ⟨g, cur, e1, hb, hg, by omega⟩
theorem OwnI.set {w : World} {lo : Nat} {A : Option Addr} {n : Nat} (h : OwnI lo A n w) {j : Nat} (hj : j < n) : ∃ g, A = some ⟨g, 0, none⟩ ∧ lo ≤ g ∧ (∃ u, w.cell? ⟨g, j, none⟩ = some u) ∧ w.frozen? ⟨g, j, none⟩ = false ∧ (∀ v, OwnI lo A n (w.setCell ⟨g, j, none⟩ v)) ∧ ∀ (B : Nat) (w0 : World) (v : Value), B ≤ lo → Below B w0 w → Below B w0 (w.setCell ⟨g, j, none⟩ v) := by
  rcases h with ⟨_, h0⟩ | ⟨g, cur, e, hb, hg, hs⟩
  · omega
  · refine ⟨g, e, hb, ⟨cur[j]'(by omega), by simp [World.cell?, hg]⟩, by simp [World.frozen?, hg], fun v => .inr ⟨g, _, e, hb, heap_set_same _ _ _ _ _ _ hg, by simpa using hs⟩, fun B w0 v hB hb0 => hb0.setCell (p := ⟨g, j, none⟩) (by show B ≤ g; omega) _⟩
set_option maxHeartbeats 8000000 in
theorem plays_yes (rv st : Int) (r0 : 0 ≤ rv) (r1 : rv ≤ 1099511627776) (s1 : 1 ≤ st) (s2 : st ≤ 32) (A : Option Addr) (c : Nat) (L : List Int) (h : L.length ≤ 300) (w : World) (hI : Ints w w.heap.size A L) : Calls Try.prog 3 #[.int .i64 rv, .int .i64 st, .slice A L.length c] w fun e w' => e = .returned (.bool true) ∧ Below w.heap.size w w' := by
  have H1 := Lib.hid (new_yes rv st r0 r1 s1 s2)
  have H2 := Lib.hid (rnew_yes rv st r0 r1 s1 s2)
  have q1 : ¬ (300 : Int) < (L.length : Int) := by omega
  have HI := Lib.hid hI
  have S2 := Lib.hid s2
  clear r0 r1 s1 s2 hI
  go_enter Try.func3, Try.ntmps3
  go_wp2_with fail
  refine (H1.out w).mono ?_
  rintro e w1 ⟨rfl, hS, hb1, hz1⟩
  obtain ⟨ga, hga⟩ : ∃ ga, ga = w.heap.size := ⟨_, rfl⟩
  rw [← hga] at hS ⊢
  have HS := Lib.hid hS
  have B1 := Lib.hid hb1
  have Z1 : Hid (w1.heap.size = ga + 1) := by show _ = _; omega
  have HGA : Hid (w.heap.size ≤ ga) := by show _ ≤ _; omega
  clear hS hb1 hz1 hga
  go_wp2_with fail
  refine (H2.out w1 (ga + 1)).mono ?_
  rintro e w2 ⟨rfl, hR, hb2, hz2⟩
  obtain ⟨gb, hgb⟩ : ∃ gb, gb = w1.heap.size := ⟨_, rfl⟩
  rw [← hgb] at hR ⊢
  have HR := Lib.hid hR
  have HS2 := Lib.hid (HS.out.below hb2)
  have B2 := Lib.hid (B1.out.trans (hb2.mono B1.out.size))
  have HGB : Hid (gb = ga + 1) := by show _ = _; have := Z1.out; omega
  have Z2 : Hid (ga + 2 ≤ w2.heap.size) := by show _ ≤ _; have := Z1.out; omega
  clear hR hb2 hz2 hgb HS B1 Z1 H1 H2
  go_wp2_with fail
  go_loopw [11] (fun i wr => ∃ (k : Nat) (f : Nat → Bool), k ≤ L.length ∧ i = .int .i64 k ∧ Hid (SetAt wr ga rv st f) ∧ Hid (RefAt wr gb (ga + 1) rv st (readF f st)) ∧ Hid (Below w.heap.size w wr) ∧ Hid (ga + 2 ≤ wr.heap.size)) (fun i _ => L.length - (intOf i).toNat)
  case atStart => exact ⟨0, fun _ => false, by omega, by go_num, HS2, by
    have e : readF (fun _ => false) st = [] := by simp [readF, natsI, riseK]
    show RefAt _ _ _ _ _ _
    rw [e]
    exact HR.out, B2, Z2⟩
  case round =>
    obtain ⟨k, f, hk, rfl, hS, hR, hB, hZ⟩ := hrel
    by_cases hlt : k < L.length
    · obtain ⟨p, rfl, m, hc⟩ := HI.out.cell k hlt
      have hA0 := Lib.hid ((show (p.add k).block < w.heap.size by rw [ad_block]; exact m))
      have hc0 := Lib.hid hc
      have i1 : (0 : Int) ≤ (k : Int) := by omega
      have i2 : (k : Int) < (L.length : Int) := by omega
      obtain ⟨x, hx⟩ : ∃ x, x = L[k] := ⟨_, rfl⟩
      rw [← hx] at hc0
      clear hx hc m
      go_wp2_with fail
      refine (copy_set hS.out).mono ?_
      rintro e w3 ⟨rfl, hX, b3⟩
      obtain ⟨gx, hgx⟩ : ∃ gx, gx = wr.heap.size := ⟨_, rfl⟩
      rw [← hgx] at hX ⊢
      have HX := Lib.hid hX
      have B3 := Lib.hid (hB.out.trans (b3.mono hB.out.size))
      have HS3 := Lib.hid (hS.out.below b3)
      have HR3 := Lib.hid (hR.out.below b3)
      have HGX : Hid (gb < gx) := by show _ < _; rw [hgx]; exact hR.out.lt
      have Z3 : Hid (ga + 2 ≤ w3.heap.size) := Nat.le_trans hZ.out b3.size
      clear hX b3 hgx hS hR hB hZ
      dsimp only
      go_wp2_with fail
      refine (rcopy_any HR3.out (by have := readF_len f S2.out; omega)).mono ?_
      rintro e w4 ⟨gy, rfl, hY, b4, hgy⟩
      have HY := Lib.hid hY
      have B4 := Lib.hid (B3.out.trans (b4.mono B3.out.size))
      have HS4 := Lib.hid (HS3.out.below b4)
      have HR4 := Lib.hid (HR3.out.below b4)
      have HX4 := Lib.hid (HX.out.below b4)
      have HGY : Hid (gb < w3.heap.size ∧ w3.heap.size ≤ gy ∧ gx < w3.heap.size) := ⟨HR3.out.lt, hgy, HX.out.lt⟩
      have Z4 : Hid (ga + 2 ≤ w4.heap.size) := Nat.le_trans Z3.out b4.size
      clear hY b4 hgy HS3 HR3 HX B3 Z3
      have HGY2 := HGY.out
      have hgb2 := HGB.out
      have hgx2 := HGX.out
      have OK : Hid (PDok { w0 := w, p := p, ga := ga, gb := gb, gx := gx, gy := gy, lo := ga + 1, loy := w3.heap.size, rv := rv, st := st, f := f, f' := addF st f x, x := x, r := (if 0 ≤ x ∧ x < st then 0 else 1), k := k, c := c, len := L.length, hb := (decide (0 ≤ x ∧ x < st) && addF st f x x.toNat), hb1 := (decide (0 ≤ IntKind.i64.wrap (x + 1) ∧ IntKind.i64.wrap (x + 1) < st) && addF st f x (IntKind.i64.wrap (x + 1)).toNat) }) := ⟨hA0.out, hc0.out, hlt, rfl, rfl, S2.out, rfl, rfl, HGA.out, by show ga < ga + 1; omega, by show ga < gb; omega, hgx2, HGY2.1, HGY2.2.1⟩
      clear HGY2 hgb2 hgx2
      dsimp only
      go_upto_region 13 with fail
      refine regPlays (by kernel_rfl) _ (by show 141 ≤ 141; decide) w4 _ OK.out rfl rfl rfl rfl rfl rfl B4.out (Nat.le_of_succ_le Z4.out) HX4.out HY.out HS4.out HR4.out ?_
      intro us w5 hus h73 b5 z5 hS5 hR5
      have HS5 : Hid (SetAt w5 ga rv st (addF st f x)) := hS5
      have HR5 : Hid (RefAt w5 gb (ga + 1) rv st (readF (addF st f x) st)) := hR5
      have B5 : Hid (Below w.heap.size w w5) := b5
      clear hS5 hR5 b5 z5 B4 Z4 HX4 HY HS4 HR4 OK
      obtain ⟨z0, z1, z2, z3, z4, z5, z6, z7, z8, z9, z10, z11, z12, z13, z14, z15, z16, z17, z18, z19, z20, z21, z22, z23, z24, z25, z26, z27, z28, z29, z30, z31, z32, z33, z34, z35, z36, z37, z38, z39, z40, z41, z42, z43, z44, z45, z46, z47, z48, z49, z50, z51, z52, z53, z54, z55, z56, z57, z58, z59, z60, z61, z62, z63, z64, z65, z66, z67, z68, z69, z70, z71, z72, z73, rfl⟩ := list74 hus
      obtain rfl : z73 = .bool false := h73
      clear hus
      simp only [fr, List.take_succ_cons, List.take_zero, List.drop_succ_cons, List.drop_zero, List.cons_append, List.nil_append]
      go_wp2_with fail
      refine (all_any HS5.out).mono ?_
      rintro e w6 ⟨A6, c6, rfl, hI6, own6, b6⟩
      have HO6 := Lib.hid (OwnI.of own6)
      have B6 := Lib.hid b6
      obtain ⟨n6, hn6⟩ : ∃ n6, n6 = (readF (addF st f x) st).length := ⟨_, rfl⟩
      rw [← hn6] at HO6 ⊢
      have hn7 : n6 ≤ 32 := by rw [hn6]; exact readF_len _ S2.out
      clear hI6 own6 b6 hn6
      dsimp only
      go_wp2_with fail
      go_loopw [15] (fun i wr' => ∃ j : Nat, j ≤ n6 ∧ i = .int .i64 j ∧ Hid (OwnI (w5.heap.size + 1) A6 n6 wr') ∧ Hid (Below w5.heap.size w5 wr')) (fun i _ => n6 - (intOf i).toNat)
      case atStart => exact ⟨0, by omega, by go_num, HO6, B6⟩
      case round =>
        obtain ⟨j, hj, rfl, hO, hBB⟩ := hrel
        by_cases hjl : j < n6
        · obtain ⟨g6, rfl, hg6, ⟨u6x, c6x⟩, f6x, hset, hbel⟩ := hO.out.set hjl
          have HSET := Lib.hid hset
          have HBEL := Lib.hid hbel
          have i3 : (0 : Int) ≤ (j : Int) := by omega
          have i4 : (j : Int) < (n6 : Int) := by omega
          clear hset hbel
          go_wp2_with fail
          go_roundw
          case rel => exact ⟨j + 1, by omega, by go_num, HSET.out _, HBEL.out _ _ _ (by omega) hBB.out⟩
          case measure => simp [intOf]; omega
        · obtain rfl : j = n6 := by omega
          have i4 : ¬ (j : Int) < (j : Int) := by omega
          have HS9 := Lib.hid (HS5.out.below hBB.out)
          have HR9 := Lib.hid (HR5.out.below hBB.out)
          have B9 := Lib.hid (B5.out.trans (hBB.out.mono B5.out.size))
          have Z9 : Hid (ga + 2 ≤ wr.heap.size) := by
            show _ ≤ _
            have := HR5.out.lt
            have := hBB.out.size
            have := HGB.out
            omega
          clear hO hBB HS5 HR5 B5
          go_wp2_with fail
          go_roundw
          case rel => exact ⟨k + 1, addF st f x, by omega, by go_num, HS9, HR9, B9, Z9⟩
          case measure => simp [intOf]; omega
    · obtain rfl : k = L.length := by omega
      have i2 : ¬ (L.length : Int) < (L.length : Int) := by omega
      clear hS hR
      go_wp2_with fail
      refine (awake10_any _).mono ?_
      rintro e w' ⟨rfl, hb⟩
      have B9 := Lib.hid (hB.out.trans (hb.mono hB.out.size))
      clear hb
      go_wp2_with fail
      go_ret
      exact ⟨rfl, B9.out⟩
theorem ReadsetPlays_walk (rv : Int) (h0 : (Lit.int .i64 rv).wf = true) (st : Int) (h1 : (Lit.int .i64 st).wf = true) (A : Option Addr) (c : Nat) (L : List Int) (w : World) (hI : Ints w w.heap.size A L) :
    Calls Try.prog 3 #[.int .i64 rv, .int .i64 st, .slice A L.length c] w fun e w' => e = .returned (.bool true) ∧ Below w.heap.size w w' := by
  by_cases h : 300 < L.length
  · exact plays_big rv st A c L hI.len h w
  · by_cases hb : rv < 0 ∨ 1099511627776 < rv ∨ st < 1 ∨ 32 < st
    · exact plays_no rv st hb A c L (by omega) w
    · exact plays_yes rv st (by omega) (by omega) (by omega) (by omega) A c L (by omega) w hI
theorem ReadsetPlays_laid : laidOutB Try.prog = true := by kernel_rfl
set_option maxRecDepth 100000 in
theorem ReadsetPlays_lifted (os : Os) (started : os.Started) (H : Type) (enc : TypeId × Value → H) :
    ReturnsInHanded {} Try.checked os 3 .any (Rows.readsetPlaysSpec.pre6 enc Try.prog Try.f3 Rows.readsetPlaysRow.domain false) (Rows.readsetPlaysSpec.post enc Try.prog Try.f3 false true false false) := by
  refine returnsInHanded_of_change (C := Try.checked) lift_own started (by kernel_rfl) Try.func3
    (ChangeSpec.witness6 (enc := enc) (C := Try.checked) false ⟨#[], #[.int .i64 0, .int .i64 0, .slice none 0 0], []⟩ 8 (by kernel_rfl) (by kernel_rfl) (by kernel_rfl) (by kernel_rfl)) ?_
  intro W base args ds gs before hval0 hW hcnd _
  have hval : ∀ (j : Nat) t v, Try.f3.params[j]? = some t → args[j]? = some v → Value.okWide Try.prog W .any base t v := hval0
  have hW' := hW
  obtain ⟨p, q, hA0, hV, rfl, hfz, hnd⟩ := hW
  have hA : DataW.TrodAll enc Try.prog W 0 (fun _ => true) true Try.f3.params.toList args.toList ds p := hA0
  rw [Try.params3] at hA hval
  obtain ⟨v0, vs0, d0, ds0, p0, q0, hargs, rfl, rfl, h0, r0⟩ := trodAll_cons hA
  obtain ⟨v1, vs1, d1, ds1, p1, q1, rfl, rfl, rfl, h1, r1⟩ := trodAll_cons r0
  obtain ⟨v2, vs2, d2, ds2, p2, q2, rfl, rfl, rfl, h2, r2⟩ := trodAll_cons r1
  obtain ⟨rfl, rfl, rfl⟩ := trodAll_nil r2
  obtain rfl : args = #[v0, v1, v2] := by cases args; simp_all
  obtain ⟨rfl, rfl⟩ := trodVars_none hV
  obtain ⟨a0, rfl, rfl, rfl, w0⟩ := open_int Try.underlying3 (hval 0 3 v0 rfl rfl) h0
  obtain ⟨a1, rfl, rfl, rfl, w1⟩ := open_int Try.underlying3 (hval 1 3 v1 rfl rfl) h1
  obtain ⟨A2, c2, L2, rfl, hI2⟩ := open_nums10 (hval 2 22 v2 rfl rfl) h2
  clear hA0 hval0
  simp only [List.append_nil, List.nil_append] at hW'
  refine (ReadsetPlays_walk a0 w0 a1 w1 A2 c2 L2 W hI2).mono fun e W' ⟨he, hg⟩ => ?_
  subst he
  exact ⟨_, rfl, lift_post (pv := []) hW' (fun _ _ _ => (trodAll_cons_mk (shut_bool Try.underlying4 _) trodAll_mk0)) (fun sp hsp => (trodAll_cons_mk (shut_int Try.underlying3 w0) (trodAll_cons_mk (shut_int Try.underlying3 w1) (trodAll_cons_mk (WideElems.Trod_stays ReadsetPlays_laid (by kernel_rfl) (of_decide_eq_true (by kernel_rfl)) h2 (fun x hx => hg.same (hW'.lt x (by simp [hx]))) (fun x hx => hsp x (by simp [hx]))) trodAll_mk0)))) (fun _ _ => rfl) (by simp)
    hg (ok_one (by kernel_rfl) rfl (okWide_bool_mk Try.underlying4 _))⟩

/-- THE STATEMENT of ReadsetPlays: for every input the call returns true, and each argument reads behind it as before. -/
theorem ReadsetPlays_holds : Rows.ReadsetPlaysSaid :=
  OpenClaim.holds_of_wide 3 Try.f3 rfl rfl rfl rfl rfl rfl rfl ⟨rfl, rfl, rfl, rfl, rfl⟩ rfl rfl rfl rfl rfl (by kernel_rfl) Try.func3 (by kernel_rfl)
    (of_decide_eq_true (by kernel_rfl)) (by unfold Func.isWrapper; first | (rw [if_pos (by decide +kernel)]; kernel_rfl) | (rw [if_neg (by decide +kernel)]; exact ⟨rfl, rfl⟩))
    (fun os started H enc _ => ReadsetPlays_lifted os started H enc)
end Go.Proofs.Ytmjaphcofimbeaa
