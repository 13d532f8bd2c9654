/-
  HeapOne: for every input the call returns true, and each argument reads behind it as before. No condition. (A stripe has one owner at most; nobody but that one lets it go; whoever asks for one that is owned is refused, and nothing changes.) Laid by gen/gen_ho.py.
-/
import Derived.Test.YtokhcogmoleocaaHl
import Derived.Test.YtokhcogmoleocaaLift
import Derived.Deep.DeepCutAuto
namespace Go.Proofs.Ytokhcogmoleocaa
set_option maxRecDepth 100000
open Go.RowKit Go.Deep
open Go.ChangeShapes Go.WideShapes
set_option linter.unusedVariables false
set_option maxHeartbeats 4000000 in
theorem one_big (A A' : Option Addr) (c c' : Nat) (n m : Nat) (hn : n ≤ 9223372036854775807) (hm : m ≤ 9223372036854775807) (h : 100 < n ∨ 300 < m) (st limit s a b : Int) (w : World) : Calls Try.prog 5 #[.slice A n c, .int .i64 st, .int .i64 limit, .slice A' m c', .int .i64 s, .int .i64 a, .int .i64 b] w fun e w' => e = .returned (.bool true) ∧ Below w.heap.size w w' := by
  by_cases h1 : 100 < n
  · have q1 : (100 : Int) < (n : Int) := by omega
    go_enter Try.func5, Try.ntmps5
    go_wp2_with fail
    refine (works11_any w).mono ?_
    rintro e w1 ⟨rfl, hb1⟩
    go_wp2_with fail
    refine (works11_any w1).mono ?_
    rintro e w2 ⟨rfl, hb2⟩
    have HB := Lib.hid (hb1.trans (hb2.mono hb1.size))
    clear hb1 hb2
    go_wp2_with fail
    go_ret
    exact ⟨rfl, HB.out⟩
  · have q1 : ¬ (100 : Int) < (n : Int) := by omega
    have q2 : (300 : Int) < (m : Int) := by omega
    go_enter Try.func5, Try.ntmps5
    go_wp2_with fail
    refine (works11_any w).mono ?_
    rintro e w1 ⟨rfl, hb1⟩
    go_wp2_with fail
    refine (works11_any w1).mono ?_
    rintro e w2 ⟨rfl, hb2⟩
    have HB := Lib.hid (hb1.trans (hb2.mono hb1.size))
    clear hb1 hb2
    go_wp2_with fail
    go_ret
    exact ⟨rfl, HB.out⟩
set_option maxHeartbeats 4000000 in
theorem one_no {L : List Int} {st limit : Int} (hbad : badH L.length st limit = true) (A A' : Option Addr) (c c' : Nat) (m : Nat) (h1 : L.length ≤ 100) (h2 : m ≤ 300) (s a b : Int) (w : World) : Calls Try.prog 5 #[.slice A L.length c, .int .i64 st, .int .i64 limit, .slice A' m c', .int .i64 s, .int .i64 a, .int .i64 b] w fun e w' => e = .returned (.bool true) ∧ Below w.heap.size w w' := by
  have q1 : ¬ (100 : Int) < (L.length : Int) := by omega
  have q2 : ¬ (300 : Int) < (m : Int) := by omega
  have HP := Lib.hid (played_no hbad A c (by omega) (.slice A' m c'))
  go_enter Try.func5, Try.ntmps5
  go_wp2_with fail
  refine (works11_any w).mono ?_
  rintro e w1 ⟨rfl, hb1⟩
  have HB := Lib.hid hb1
  clear hb1
  go_wp2_with fail
  refine (HP.out w1).mono ?_
  rintro e w' ⟨rfl, rfl⟩
  go_wp2_with fail
  go_ret
  exact ⟨rfl, HB.out⟩
set_option maxHeartbeats 16000000 in
theorem one_yes {L : List Int} {st limit : Int} (hok : badH L.length st limit = false) {w : World} {A A' : Option Addr} (c c' : Nat) (hI : Ints w w.heap.size A L) {S : List S11} (hS : Steps11 w w.heap.size A' S) (h1 : L.length ≤ 100) (h2 : S.length ≤ 300) (s a0 b : Int) : Calls Try.prog 5 #[.slice A L.length c, .int .i64 st, .int .i64 limit, .slice A' S.length c', .int .i64 s, .int .i64 a0, .int .i64 b] w fun e w' => e = .returned (.bool true) ∧ Below w.heap.size w w' := by
  have q1 : ¬ (100 : Int) < (L.length : Int) := by omega
  have q2 : ¬ (300 : Int) < (S.length : Int) := by omega
  have HOK := Lib.hid hok
  have HI := Lib.hid hI
  have HS := Lib.hid hS
  have HBP := Lib.hid ((HB.new hok).play S S.length)
  have HP0 : Hid (playF (newF L st limit) S S.length 0 = st) := (playF_keep (HB.new hok) S (.inl rfl) _).trans new_st
  clear hok hI hS
  go_enter Try.func5, Try.ntmps5
  go_wp2_with fail
  refine (works11_any w).mono ?_
  rintro e w1 ⟨rfl, hb1⟩
  have HB1 := Lib.hid hb1
  have HI1 := Lib.hid (ints_up11 (HI.out.below hb1 (Nat.le_refl _)) hb1.size)
  have HS1 : Hid (Steps11 w1 w1.heap.size A' S) := fun i hi => by
    obtain ⟨p, e, m, hs⟩ := (HS.out.below hb1) i hi
    exact ⟨p, e, Nat.lt_of_lt_of_le m hb1.size, hs⟩
  clear hb1 HI HS
  go_wp2_with fail
  refine (played_yes HOK.out c c' HI1.out HS1.out (by omega)).mono ?_
  rintro e w2 ⟨g, rfl, hH, hg, hb2⟩
  have HG : Hid (w.heap.size ≤ g) := by show _ ≤ _; have := HB1.out.size; omega
  have B2 := Lib.hid (HB1.out.trans (hb2.mono HB1.out.size))
  obtain ⟨C0, hC0⟩ : ∃ C0, C0 = playF (newF L st limit) S S.length := ⟨_, rfl⟩
  rw [← hC0] at hH HBP HP0
  have H2 := Lib.hid hH
  have OW := Lib.hid (howner_any hH HBP.out s)
  clear hH hg hb2 hC0 HOK HI1 HS1 HB1
  obtain ⟨ow, how⟩ : ∃ ow, ow = ownerF C0 s := ⟨_, rfl⟩
  rw [← how] at OW
  have HOW := Lib.hid how
  clear how
  go_wp2_with fail
  refine OW.out.mono ?_
  rintro e w' ⟨rfl, rfl⟩
  dsimp only
  go_wp2_with fail
  refine (hcopy_any H2.out).mono ?_
  rintro e w3 ⟨rfl, hC3, b3⟩
  obtain ⟨gu, hgu⟩ : ∃ gu, gu = w2.heap.size := ⟨_, rfl⟩
  have HGU : Hid (g ≠ gu) := by show _ ≠ _; have := H2.out.lt; omega
  rw [← hgu] at hC3 ⊢
  have U3 := Lib.hid hC3
  have H3 := Lib.hid (H2.out.below b3 H2.out.lt)
  have B3 := Lib.hid (B2.out.trans (b3.mono B2.out.size))
  have OA := Lib.hid (own_any H3.out HBP.out s a0)
  clear hC3 b3 hgu H2 B2 OW
  obtain ⟨er, her⟩ : ∃ er, er = ownE C0 s a0 := ⟨_, rfl⟩
  rw [← her] at OA
  dsimp only
  go_wp2_with fail
  refine OA.out.mono ?_
  rintro e w4 ⟨rfl, hU⟩
  have B4 := Lib.hid (B3.out.trans (hU.low _ HG.out))
  have U4 := Lib.hid (U3.out.same (hU.far gu (Ne.symm HGU.out)))
  have H4 := Lib.hid hU.at'
  clear hU OA H3 U3 B3
  dsimp only
  by_cases he0 : er = 0
  · subst he0
    obtain ⟨a, ha⟩ : ∃ a, a = a0 := ⟨_, rfl⟩
    subst ha
    obtain ⟨z1, z2, z3, z4⟩ := own_ok.1 her.symm
    obtain ⟨z5, z6⟩ := isS_iff.1 z1
    rw [HP0.out] at z6
    have z7 : ow = -1 := by rw [HOW.out]; unfold ownerF; rw [if_pos z1, z4]
    subst z7
    have EO : ownC C0 s a = put C0 (1 + s.toNat) a := if_pos her.symm
    rw [EO] at H4
    have HBC0 : HB (put C0 (1 + s.toNat) a) := by rw [← EO]; exact HBP.out.own s a
    have hs32 := isS_lt HBP.out z1
    obtain ⟨C, hC⟩ : ∃ C, C = put C0 (1 + s.toNat) a := ⟨_, rfl⟩
    have hiC : isS C s = true := by rw [hC]; unfold isS at z1 ⊢; rw [put_far (by omega)]; exact z1
    have hCs : C (1 + s.toNat) = a := by rw [hC, put_at]
    rw [← hC] at H4 HBC0
    have HBC := Lib.hid HBC0
    have HPS : Hid (isS C s = true ∧ C (1 + s.toNat) = a) := ⟨hiC, hCs⟩
    have HP : Hid ((isS C s = true ∧ C (1 + s.toNat) = a) ∨ (isS C s = false ∧ a = -1)) := .inl ⟨hiC, hCs⟩
    have OA := howner_any H4.out HBC.out s
    rw [show ownerF C s = a by unfold ownerF; rw [if_pos hiC, hCs]] at OA
    have OA' := Lib.hid OA
    have qa : (a != a) = false := bne_eq_false_iff_eq.2 rfl
    have na : ¬ a < 0 := by omega
    clear her EO HBC0 hC hiC hCs OA z1 z4 hs32 HOW U4 HBP HP0 HGU
    go_wp2_with fail
    refine OA'.out.mono ?_
    rintro e w' ⟨rfl, rfl⟩
    dsimp only
    have H6 := H4
    have B6 := B4
    obtain ⟨w6, hw6⟩ : ∃ w6, w6 = w4 := ⟨_, rfl⟩
    rw [← hw6] at H6 B6 ⊢
    clear hw6 H4 B4 OA'
    go_wp2_with fail
    refine (hcopy_any H6.out).mono ?_
    rintro e w7 ⟨rfl, hC7, b7⟩
    obtain ⟨gv, hgv⟩ : ∃ gv, gv = w6.heap.size := ⟨_, rfl⟩
    have HGV : Hid (g ≠ gv) := by show _ ≠ _; have := H6.out.lt; omega
    rw [← hgv] at hC7 ⊢
    have V7 := Lib.hid hC7
    have H7 := Lib.hid (H6.out.below b7 H6.out.lt)
    have B7 := Lib.hid (B6.out.trans (b7.mono B6.out.size))
    clear hC7 b7 hgv H6 B6
    dsimp only
    by_cases hba : b = a
    · have qb : (b != a) = false := bne_eq_false_iff_eq.2 hba
      clear hba
      go_wp2_with fail
      have ho := owned_ok.2 (And.intro HPS.out.1 (And.intro (by omega) HPS.out.2))
      have hl := let_any H7.out HBC.out s a
      rw [ho] at hl
      have HLT := Lib.hid hl
      have EQL : Hid (letC C s a = put C (1 + s.toNat) (-1)) := if_pos ho
      clear ho hl
      refine HLT.out.mono ?_
      rintro e w9 ⟨rfl, hU⟩
      rw [EQL.out] at hU
      have hbP : HB (put C (1 + s.toNat) (-1)) := by rw [← EQL.out]; exact HBC.out.let' s a
      have hiP : isS (put C (1 + s.toNat) (-1)) s = true := by
        have := HPS.out.1
        unfold isS at this ⊢
        rw [put_far (by omega)]
        exact this
      have hs32 := isS_lt HBC.out HPS.out.1
      have OW := howner_any hU.at' hbP s
      rw [show ownerF (put C (1 + s.toNat) (-1)) s = -1 by unfold ownerF; rw [if_pos hiP, put_at]] at OW
      have VE := hversion_any hU.at' hbP s
      rw [show versionF (put C (1 + s.toNat) (-1)) s = C (33 + s.toNat) by unfold versionF; rw [if_pos hiP, put_far (by omega)]] at VE
      have VW := hversion_any (V7.out.same (hU.far gv (Ne.symm HGV.out))) HBC.out s
      rw [show versionF C s = C (33 + s.toNat) by unfold versionF; rw [if_pos HPS.out.1]] at VW
      have B9 := Lib.hid (B7.out.trans (hU.low _ HG.out))
      obtain ⟨y, hy⟩ : ∃ y, y = C (33 + s.toNat) := ⟨_, rfl⟩
      rw [← hy] at VE VW
      have OW' := Lib.hid OW
      have VE' := Lib.hid VE
      have VW' := Lib.hid VW
      have qy : (y == y) = true := beq_self_eq_true y
      clear OW VE VW hy hU hbP hiP hs32
      dsimp only
      go_wp2_with fail
      refine OW'.out.mono ?_
      rintro e w' ⟨rfl, rfl⟩
      dsimp only
      go_wp2_with fail
      refine VE'.out.mono ?_
      rintro e w' ⟨rfl, rfl⟩
      dsimp only
      go_wp2_with fail
      refine VW'.out.mono ?_
      rintro e w' ⟨rfl, rfl⟩
      dsimp only
      go_wp2_with fail
      go_ret
      exact ⟨rfl, B9.out⟩
    · have qb : (b != a) = true := bne_iff_ne.2 hba
      have nb : ownedE C s b ≠ 0 := fun h => by
        obtain ⟨x1, x2, x3⟩ := owned_ok.1 h
        rcases HP.out with ⟨y1, y2⟩ | ⟨y1, y2⟩
        · exact hba (x3.symm.trans y2)
        · rw [x1] at y1; cases y1
      have L7 := Lib.hid (let_any H7.out HBC.out s b)
      have EL : Hid (letC C s b = C) := if_neg nb
      have FB : Hid (freeE C s b (C 65) ≠ 0) := fun h => nb (free_ok.1 h).1
      have EF : Hid (freeC C s b (C 65) = C) := if_neg FB.out
      obtain ⟨x1, hx1⟩ : ∃ x1, x1 = ownedE C s b := ⟨_, rfl⟩
      rw [← hx1] at L7 nb
      have qx1 : (x1 == 0) = false := beq_eq_false_iff_ne.2 nb
      clear hx1 nb hba
      go_wp2_with fail
      refine L7.out.mono ?_
      rintro e w8 ⟨rfl, hU⟩
      rw [EL.out] at hU
      have H8 := Lib.hid hU.at'
      have V8 := Lib.hid (V7.out.same (hU.far gv (Ne.symm HGV.out)))
      have B8 := Lib.hid (B7.out.trans (hU.low _ HG.out))
      have CL := Lib.hid (clock_any H8.out)
      have FR := Lib.hid (free_any H8.out HBC.out s b (C 65))
      obtain ⟨x2, hx2⟩ : ∃ x2, x2 = freeE C s b (C 65) := ⟨_, rfl⟩
      have nx2 : x2 ≠ 0 := by rw [hx2]; exact FB.out
      have qx2 : (x2 == 0) = false := beq_eq_false_iff_ne.2 nx2
      rw [← hx2] at FR
      obtain ⟨k65, hk65⟩ : ∃ k65, k65 = C 65 := ⟨_, rfl⟩
      rw [← hk65] at CL FR EF
      clear hU H7 V7 B7 L7 hx2 nx2 hk65 FB
      dsimp only
      go_wp2_with fail
      refine CL.out.mono ?_
      rintro e w' ⟨rfl, rfl⟩
      dsimp only
      go_wp2_with fail
      refine FR.out.mono ?_
      rintro e w9 ⟨rfl, hU⟩
      rw [EF.out] at hU
      have H9 := Lib.hid hU.at'
      have V9 := Lib.hid (V8.out.same (hU.far gv (Ne.symm HGV.out)))
      have B9 := Lib.hid (B8.out.trans (hU.low _ HG.out))
      have OB := Lib.hid (own_any H9.out HBC.out s b)
      clear hU H8 V8 B8 CL FR
      dsimp only
      have hob : ownE C s b ≠ 0 := fun h => by
        have := (own_ok.1 h).2.2.2
        rw [HPS.out.2] at this
        omega
      have EO : Hid (ownC C s b = C) := if_neg hob
      obtain ⟨x3, hx3⟩ : ∃ x3, x3 = ownE C s b := ⟨_, rfl⟩
      rw [← hx3] at OB hob
      have qx3 : (x3 == 0) = false := beq_eq_false_iff_ne.2 hob
      clear hob hx3
      go_wp2_with fail
      refine OB.out.mono ?_
      rintro e w10 ⟨rfl, hU⟩
      rw [EO.out] at hU
      have H10 := Lib.hid hU.at'
      have V10 := Lib.hid (V9.out.same (hU.far gv (Ne.symm HGV.out)))
      have B10 := Lib.hid (B9.out.trans (hU.low _ HG.out))
      have SM := Lib.hid (same_any H10.out V10.out)
      clear hU H9 V9 B9 OB
      dsimp only
      go_wp2_with fail
      refine SM.out.mono ?_
      rintro e w11 ⟨r, rfl, hr, b11⟩
      obtain rfl : r = true := hr.2 (fun j _ => by first | rfl | trivial)
      have H11 := Lib.hid (H10.out.below b11 H10.out.lt)
      have V11 := Lib.hid (V10.out.below b11 V10.out.lt)
      have B11 := Lib.hid (B10.out.trans (b11.mono B10.out.size))
      clear hr b11 H10 V10 B10 SM
      dsimp only
      go_wp2_with fail
      have ho := owned_ok.2 (And.intro HPS.out.1 (And.intro (by omega) HPS.out.2))
      have hl := let_any H11.out HBC.out s a
      rw [ho] at hl
      have HLT := Lib.hid hl
      have EQL : Hid (letC C s a = put C (1 + s.toNat) (-1)) := if_pos ho
      clear ho hl
      refine HLT.out.mono ?_
      rintro e w9 ⟨rfl, hU⟩
      rw [EQL.out] at hU
      have hbP : HB (put C (1 + s.toNat) (-1)) := by rw [← EQL.out]; exact HBC.out.let' s a
      have hiP : isS (put C (1 + s.toNat) (-1)) s = true := by
        have := HPS.out.1
        unfold isS at this ⊢
        rw [put_far (by omega)]
        exact this
      have hs32 := isS_lt HBC.out HPS.out.1
      have OW := howner_any hU.at' hbP s
      rw [show ownerF (put C (1 + s.toNat) (-1)) s = -1 by unfold ownerF; rw [if_pos hiP, put_at]] at OW
      have VE := hversion_any hU.at' hbP s
      rw [show versionF (put C (1 + s.toNat) (-1)) s = C (33 + s.toNat) by unfold versionF; rw [if_pos hiP, put_far (by omega)]] at VE
      have VW := hversion_any (V11.out.same (hU.far gv (Ne.symm HGV.out))) HBC.out s
      rw [show versionF C s = C (33 + s.toNat) by unfold versionF; rw [if_pos HPS.out.1]] at VW
      have B9 := Lib.hid (B11.out.trans (hU.low _ HG.out))
      obtain ⟨y, hy⟩ : ∃ y, y = C (33 + s.toNat) := ⟨_, rfl⟩
      rw [← hy] at VE VW
      have OW' := Lib.hid OW
      have VE' := Lib.hid VE
      have VW' := Lib.hid VW
      have qy : (y == y) = true := beq_self_eq_true y
      clear OW VE VW hy hU hbP hiP hs32
      dsimp only
      go_wp2_with fail
      refine OW'.out.mono ?_
      rintro e w' ⟨rfl, rfl⟩
      dsimp only
      go_wp2_with fail
      refine VE'.out.mono ?_
      rintro e w' ⟨rfl, rfl⟩
      dsimp only
      go_wp2_with fail
      refine VW'.out.mono ?_
      rintro e w' ⟨rfl, rfl⟩
      dsimp only
      go_wp2_with fail
      go_ret
      exact ⟨rfl, B9.out⟩
  · have EO : ownC C0 s a0 = C0 := if_neg (by rw [← her]; exact he0)
    rw [EO] at H4
    have qe : (er == 0) = false := beq_eq_false_iff_ne.2 he0
    have qe2 : (er != 0) = true := bne_iff_ne.2 he0
    have HNO : Hid (¬ (0 ≤ s ∧ s < st ∧ ow = -1 ∧ 0 ≤ a0 ∧ a0 < 6)) := fun ⟨y1, y2, y3, y4, y5⟩ => he0 (by
      rw [her]
      have y6 : isS C0 s = true := isS_iff.2 ⟨y1, by rw [HP0.out]; exact y2⟩
      refine own_ok.2 ⟨y6, y4, y5, ?_⟩
      rw [HOW.out] at y3
      unfold ownerF at y3
      rwa [if_pos y6] at y3)
    clear EO her he0
    go_upto_region 9 with fail
    go_cut [69] (fun v wx => v = .bool false ∧ wx = w4)
    case first =>
      by_cases y1 : 0 ≤ s
      · by_cases y2 : s < st
        · by_cases y3 : ow = -1
          · have y3' : (ow == -1) = true := beq_iff_eq.2 y3
            by_cases y4 : 0 ≤ a0
            · have y5 : ¬ a0 < 6 := fun y5 => HNO.out ⟨y1, y2, y3, y4, y5⟩
              clear HNO y3
              go_wp2_with fail
              go_meet
              exact ⟨rfl, rfl⟩
            · clear HNO y3
              go_wp2_with fail
              go_meet
              exact ⟨rfl, rfl⟩
          · have y3' : (ow == -1) = false := beq_eq_false_iff_ne.2 y3
            clear HNO y3
            go_wp2_with fail
            go_meet
            exact ⟨rfl, rfl⟩
        · clear HNO
          go_wp2_with fail
          go_meet
          exact ⟨rfl, rfl⟩
      · clear HNO
        go_wp2_with fail
        go_meet
        exact ⟨rfl, rfl⟩
    case rest =>
      obtain ⟨rfl, rfl⟩ := hcut
      have SM := Lib.hid (same_any H4.out U4.out)
      clear HNO
      go_wp2_with fail
      refine SM.out.mono ?_
      rintro e w6 ⟨r, rfl, hr, b6⟩
      obtain rfl : r = true := hr.2 (fun j _ => by first | rfl | trivial)
      have H6 := Lib.hid (H4.out.below b6 H4.out.lt)
      have B6 := Lib.hid (B4.out.trans (b6.mono B4.out.size))
      clear hr b6 H4 U4 B4 SM
      obtain ⟨a, ha⟩ : ∃ a, a = ow := ⟨_, rfl⟩
      subst ha
      obtain ⟨C, hC⟩ : ∃ C, C = C0 := ⟨_, rfl⟩
      rw [← hC] at H6 HBP HP0 HOW
      have HBC := HBP
      have HP : Hid ((isS C s = true ∧ C (1 + s.toNat) = a) ∨ (isS C s = false ∧ a = -1)) := by
        show _ ∨ _
        rw [HOW.out]
        unfold ownerF
        cases hs : isS C s with
        | true => rw [if_pos rfl]; exact .inl ⟨rfl, rfl⟩
        | false => rw [if_neg (by decide)]; exact .inr ⟨rfl, rfl⟩
      clear hC HBP HP0 HOW
      dsimp only
      by_cases na : a < 0
      · go_wp2_with fail
        refine (hcopy_any H6.out).mono ?_
        rintro e w7 ⟨rfl, hC7, b7⟩
        obtain ⟨gv, hgv⟩ : ∃ gv, gv = w6.heap.size := ⟨_, rfl⟩
        have HGV : Hid (g ≠ gv) := by show _ ≠ _; have := H6.out.lt; omega
        rw [← hgv] at hC7 ⊢
        have V7 := Lib.hid hC7
        have H7 := Lib.hid (H6.out.below b7 H6.out.lt)
        have B7 := Lib.hid (B6.out.trans (b7.mono B6.out.size))
        clear hC7 b7 hgv H6 B6
        dsimp only
        by_cases hba : b = a
        · have qb : (b != a) = false := bne_eq_false_iff_eq.2 hba
          clear hba
          go_wp2_with fail
          go_ret
          exact ⟨rfl, B7.out⟩
        · have qb : (b != a) = true := bne_iff_ne.2 hba
          have nb : ownedE C s b ≠ 0 := fun h => by
            obtain ⟨x1, x2, x3⟩ := owned_ok.1 h
            rcases HP.out with ⟨y1, y2⟩ | ⟨y1, y2⟩
            · exact hba (x3.symm.trans y2)
            · rw [x1] at y1; cases y1
          have L7 := Lib.hid (let_any H7.out HBC.out s b)
          have EL : Hid (letC C s b = C) := if_neg nb
          have FB : Hid (freeE C s b (C 65) ≠ 0) := fun h => nb (free_ok.1 h).1
          have EF : Hid (freeC C s b (C 65) = C) := if_neg FB.out
          obtain ⟨x1, hx1⟩ : ∃ x1, x1 = ownedE C s b := ⟨_, rfl⟩
          rw [← hx1] at L7 nb
          have qx1 : (x1 == 0) = false := beq_eq_false_iff_ne.2 nb
          clear hx1 nb hba
          go_wp2_with fail
          refine L7.out.mono ?_
          rintro e w8 ⟨rfl, hU⟩
          rw [EL.out] at hU
          have H8 := Lib.hid hU.at'
          have V8 := Lib.hid (V7.out.same (hU.far gv (Ne.symm HGV.out)))
          have B8 := Lib.hid (B7.out.trans (hU.low _ HG.out))
          have CL := Lib.hid (clock_any H8.out)
          have FR := Lib.hid (free_any H8.out HBC.out s b (C 65))
          obtain ⟨x2, hx2⟩ : ∃ x2, x2 = freeE C s b (C 65) := ⟨_, rfl⟩
          have nx2 : x2 ≠ 0 := by rw [hx2]; exact FB.out
          have qx2 : (x2 == 0) = false := beq_eq_false_iff_ne.2 nx2
          rw [← hx2] at FR
          obtain ⟨k65, hk65⟩ : ∃ k65, k65 = C 65 := ⟨_, rfl⟩
          rw [← hk65] at CL FR EF
          clear hU H7 V7 B7 L7 hx2 nx2 hk65 FB
          dsimp only
          go_wp2_with fail
          refine CL.out.mono ?_
          rintro e w' ⟨rfl, rfl⟩
          dsimp only
          go_wp2_with fail
          refine FR.out.mono ?_
          rintro e w9 ⟨rfl, hU⟩
          rw [EF.out] at hU
          have H9 := Lib.hid hU.at'
          have V9 := Lib.hid (V8.out.same (hU.far gv (Ne.symm HGV.out)))
          have B9 := Lib.hid (B8.out.trans (hU.low _ HG.out))
          have OB := Lib.hid (own_any H9.out HBC.out s b)
          clear hU H8 V8 B8 CL FR
          dsimp only
          by_cases hob : ownE C s b = 0
          · rw [hob] at OB
            clear hob
            go_wp2_with fail
            refine OB.out.mono ?_
            rintro e w10 ⟨rfl, hU⟩
            have B10 := Lib.hid (B9.out.trans (hU.low _ HG.out))
            clear hU
            dsimp only
            go_wp2_with fail
            go_ret
            exact ⟨rfl, B10.out⟩
          · obtain ⟨x3, hx3⟩ : ∃ x3, x3 = ownE C s b := ⟨_, rfl⟩
            rw [← hx3] at OB hob
            have qx3 : (x3 == 0) = false := beq_eq_false_iff_ne.2 hob
            clear hob hx3
            go_wp2_with fail
            refine OB.out.mono ?_
            rintro e w10 ⟨rfl, hU⟩
            have B10 := Lib.hid (B9.out.trans (hU.low _ HG.out))
            clear hU
            dsimp only
            go_wp2_with fail
            go_ret
            exact ⟨rfl, B10.out⟩
      · have HPS : Hid (isS C s = true ∧ C (1 + s.toNat) = a) := by
          rcases HP.out with h | h
          · exact h
          · omega
        go_wp2_with fail
        refine (hcopy_any H6.out).mono ?_
        rintro e w7 ⟨rfl, hC7, b7⟩
        obtain ⟨gv, hgv⟩ : ∃ gv, gv = w6.heap.size := ⟨_, rfl⟩
        have HGV : Hid (g ≠ gv) := by show _ ≠ _; have := H6.out.lt; omega
        rw [← hgv] at hC7 ⊢
        have V7 := Lib.hid hC7
        have H7 := Lib.hid (H6.out.below b7 H6.out.lt)
        have B7 := Lib.hid (B6.out.trans (b7.mono B6.out.size))
        clear hC7 b7 hgv H6 B6
        dsimp only
        by_cases hba : b = a
        · have qb : (b != a) = false := bne_eq_false_iff_eq.2 hba
          clear hba
          go_wp2_with fail
          have ho := owned_ok.2 (And.intro HPS.out.1 (And.intro (by omega) HPS.out.2))
          have hl := let_any H7.out HBC.out s a
          rw [ho] at hl
          have HLT := Lib.hid hl
          have EQL : Hid (letC C s a = put C (1 + s.toNat) (-1)) := if_pos ho
          clear ho hl
          refine HLT.out.mono ?_
          rintro e w9 ⟨rfl, hU⟩
          rw [EQL.out] at hU
          have hbP : HB (put C (1 + s.toNat) (-1)) := by rw [← EQL.out]; exact HBC.out.let' s a
          have hiP : isS (put C (1 + s.toNat) (-1)) s = true := by
            have := HPS.out.1
            unfold isS at this ⊢
            rw [put_far (by omega)]
            exact this
          have hs32 := isS_lt HBC.out HPS.out.1
          have OW := howner_any hU.at' hbP s
          rw [show ownerF (put C (1 + s.toNat) (-1)) s = -1 by unfold ownerF; rw [if_pos hiP, put_at]] at OW
          have VE := hversion_any hU.at' hbP s
          rw [show versionF (put C (1 + s.toNat) (-1)) s = C (33 + s.toNat) by unfold versionF; rw [if_pos hiP, put_far (by omega)]] at VE
          have VW := hversion_any (V7.out.same (hU.far gv (Ne.symm HGV.out))) HBC.out s
          rw [show versionF C s = C (33 + s.toNat) by unfold versionF; rw [if_pos HPS.out.1]] at VW
          have B9 := Lib.hid (B7.out.trans (hU.low _ HG.out))
          obtain ⟨y, hy⟩ : ∃ y, y = C (33 + s.toNat) := ⟨_, rfl⟩
          rw [← hy] at VE VW
          have OW' := Lib.hid OW
          have VE' := Lib.hid VE
          have VW' := Lib.hid VW
          have qy : (y == y) = true := beq_self_eq_true y
          clear OW VE VW hy hU hbP hiP hs32
          dsimp only
          go_wp2_with fail
          refine OW'.out.mono ?_
          rintro e w' ⟨rfl, rfl⟩
          dsimp only
          go_wp2_with fail
          refine VE'.out.mono ?_
          rintro e w' ⟨rfl, rfl⟩
          dsimp only
          go_wp2_with fail
          refine VW'.out.mono ?_
          rintro e w' ⟨rfl, rfl⟩
          dsimp only
          go_wp2_with fail
          go_ret
          exact ⟨rfl, B9.out⟩
        · have qb : (b != a) = true := bne_iff_ne.2 hba
          have nb : ownedE C s b ≠ 0 := fun h => by
            obtain ⟨x1, x2, x3⟩ := owned_ok.1 h
            rcases HP.out with ⟨y1, y2⟩ | ⟨y1, y2⟩
            · exact hba (x3.symm.trans y2)
            · rw [x1] at y1; cases y1
          have L7 := Lib.hid (let_any H7.out HBC.out s b)
          have EL : Hid (letC C s b = C) := if_neg nb
          have FB : Hid (freeE C s b (C 65) ≠ 0) := fun h => nb (free_ok.1 h).1
          have EF : Hid (freeC C s b (C 65) = C) := if_neg FB.out
          obtain ⟨x1, hx1⟩ : ∃ x1, x1 = ownedE C s b := ⟨_, rfl⟩
          rw [← hx1] at L7 nb
          have qx1 : (x1 == 0) = false := beq_eq_false_iff_ne.2 nb
          clear hx1 nb hba
          go_wp2_with fail
          refine L7.out.mono ?_
          rintro e w8 ⟨rfl, hU⟩
          rw [EL.out] at hU
          have H8 := Lib.hid hU.at'
          have V8 := Lib.hid (V7.out.same (hU.far gv (Ne.symm HGV.out)))
          have B8 := Lib.hid (B7.out.trans (hU.low _ HG.out))
          have CL := Lib.hid (clock_any H8.out)
          have FR := Lib.hid (free_any H8.out HBC.out s b (C 65))
          obtain ⟨x2, hx2⟩ : ∃ x2, x2 = freeE C s b (C 65) := ⟨_, rfl⟩
          have nx2 : x2 ≠ 0 := by rw [hx2]; exact FB.out
          have qx2 : (x2 == 0) = false := beq_eq_false_iff_ne.2 nx2
          rw [← hx2] at FR
          obtain ⟨k65, hk65⟩ : ∃ k65, k65 = C 65 := ⟨_, rfl⟩
          rw [← hk65] at CL FR EF
          clear hU H7 V7 B7 L7 hx2 nx2 hk65 FB
          dsimp only
          go_wp2_with fail
          refine CL.out.mono ?_
          rintro e w' ⟨rfl, rfl⟩
          dsimp only
          go_wp2_with fail
          refine FR.out.mono ?_
          rintro e w9 ⟨rfl, hU⟩
          rw [EF.out] at hU
          have H9 := Lib.hid hU.at'
          have V9 := Lib.hid (V8.out.same (hU.far gv (Ne.symm HGV.out)))
          have B9 := Lib.hid (B8.out.trans (hU.low _ HG.out))
          have OB := Lib.hid (own_any H9.out HBC.out s b)
          clear hU H8 V8 B8 CL FR
          dsimp only
          have hob : ownE C s b ≠ 0 := fun h => by
            have := (own_ok.1 h).2.2.2
            rw [HPS.out.2] at this
            omega
          have EO : Hid (ownC C s b = C) := if_neg hob
          obtain ⟨x3, hx3⟩ : ∃ x3, x3 = ownE C s b := ⟨_, rfl⟩
          rw [← hx3] at OB hob
          have qx3 : (x3 == 0) = false := beq_eq_false_iff_ne.2 hob
          clear hob hx3
          go_wp2_with fail
          refine OB.out.mono ?_
          rintro e w10 ⟨rfl, hU⟩
          rw [EO.out] at hU
          have H10 := Lib.hid hU.at'
          have V10 := Lib.hid (V9.out.same (hU.far gv (Ne.symm HGV.out)))
          have B10 := Lib.hid (B9.out.trans (hU.low _ HG.out))
          have SM := Lib.hid (same_any H10.out V10.out)
          clear hU H9 V9 B9 OB
          dsimp only
          go_wp2_with fail
          refine SM.out.mono ?_
          rintro e w11 ⟨r, rfl, hr, b11⟩
          obtain rfl : r = true := hr.2 (fun j _ => by first | rfl | trivial)
          have H11 := Lib.hid (H10.out.below b11 H10.out.lt)
          have V11 := Lib.hid (V10.out.below b11 V10.out.lt)
          have B11 := Lib.hid (B10.out.trans (b11.mono B10.out.size))
          clear hr b11 H10 V10 B10 SM
          dsimp only
          go_wp2_with fail
          have ho := owned_ok.2 (And.intro HPS.out.1 (And.intro (by omega) HPS.out.2))
          have hl := let_any H11.out HBC.out s a
          rw [ho] at hl
          have HLT := Lib.hid hl
          have EQL : Hid (letC C s a = put C (1 + s.toNat) (-1)) := if_pos ho
          clear ho hl
          refine HLT.out.mono ?_
          rintro e w9 ⟨rfl, hU⟩
          rw [EQL.out] at hU
          have hbP : HB (put C (1 + s.toNat) (-1)) := by rw [← EQL.out]; exact HBC.out.let' s a
          have hiP : isS (put C (1 + s.toNat) (-1)) s = true := by
            have := HPS.out.1
            unfold isS at this ⊢
            rw [put_far (by omega)]
            exact this
          have hs32 := isS_lt HBC.out HPS.out.1
          have OW := howner_any hU.at' hbP s
          rw [show ownerF (put C (1 + s.toNat) (-1)) s = -1 by unfold ownerF; rw [if_pos hiP, put_at]] at OW
          have VE := hversion_any hU.at' hbP s
          rw [show versionF (put C (1 + s.toNat) (-1)) s = C (33 + s.toNat) by unfold versionF; rw [if_pos hiP, put_far (by omega)]] at VE
          have VW := hversion_any (V11.out.same (hU.far gv (Ne.symm HGV.out))) HBC.out s
          rw [show versionF C s = C (33 + s.toNat) by unfold versionF; rw [if_pos HPS.out.1]] at VW
          have B9 := Lib.hid (B11.out.trans (hU.low _ HG.out))
          obtain ⟨y, hy⟩ : ∃ y, y = C (33 + s.toNat) := ⟨_, rfl⟩
          rw [← hy] at VE VW
          have OW' := Lib.hid OW
          have VE' := Lib.hid VE
          have VW' := Lib.hid VW
          have qy : (y == y) = true := beq_self_eq_true y
          clear OW VE VW hy hU hbP hiP hs32
          dsimp only
          go_wp2_with fail
          refine OW'.out.mono ?_
          rintro e w' ⟨rfl, rfl⟩
          dsimp only
          go_wp2_with fail
          refine VE'.out.mono ?_
          rintro e w' ⟨rfl, rfl⟩
          dsimp only
          go_wp2_with fail
          refine VW'.out.mono ?_
          rintro e w' ⟨rfl, rfl⟩
          dsimp only
          go_wp2_with fail
          go_ret
          exact ⟨rfl, B9.out⟩
theorem HeapOne_walk (A : Option Addr) (c : Nat) (L : List Int) (w : World) (hI : Ints w w.heap.size A L) (st : Int) (h1 : (Lit.int .i64 st).wf = true) (limit : Int) (h2 : (Lit.int .i64 limit).wf = true) (A' : Option Addr) (c' : Nat) (S : List S11) (hn : S.length ≤ 9223372036854775807) (hS : Steps11 w w.heap.size A' S) (s : Int) (h4 : (Lit.int .i64 s).wf = true) (a : Int) (h5 : (Lit.int .i64 a).wf = true) (b : Int) (h6 : (Lit.int .i64 b).wf = true) :
    Calls Try.prog 5 #[.slice A L.length c, .int .i64 st, .int .i64 limit, .slice A' S.length c', .int .i64 s, .int .i64 a, .int .i64 b] w fun e w' => e = .returned (.bool true) ∧ Below w.heap.size w w' := by
  by_cases h : 100 < L.length ∨ 300 < S.length
  · exact one_big A A' c c' _ _ hI.len hn h st limit s a b w
  · cases hb : badH L.length st limit with
    | true => exact one_no hb A A' c c' _ (by omega) (by omega) s a b w
    | false => exact one_yes hb c c' hI hS (by omega) (by omega) s a b
theorem HeapOne_laid : laidOutB Try.prog = true := by kernel_rfl
set_option maxRecDepth 100000 in
theorem HeapOne_lifted (os : Os) (started : os.Started) (H : Type) (enc : TypeId × Value → H) :
    ReturnsInHanded {} Try.checked os 5 .any (Rows.heapOneSpec.pre6 enc Try.prog Try.f5 Rows.heapOneRow.domain false) (Rows.heapOneSpec.post enc Try.prog Try.f5 false true false false) := by
  refine returnsInHanded_of_change (C := Try.checked) lift_own started (by kernel_rfl) Try.func5
    (ChangeSpec.witness6 (enc := enc) (C := Try.checked) false ⟨#[], #[.slice none 0 0, .int .i64 0, .int .i64 0, .slice none 0 0, .int .i64 0, .int .i64 0, .int .i64 0], []⟩ 8 (by kernel_rfl) (by kernel_rfl) (by kernel_rfl) (by kernel_rfl)) ?_
  intro W base args ds gs before hval0 hW hcnd _
  have hval : ∀ (j : Nat) t v, Try.f5.params[j]? = some t → args[j]? = some v → Value.okWide Try.prog W .any base t v := hval0
  have hW' := hW
  obtain ⟨p, q, hA0, hV, rfl, hfz, hnd⟩ := hW
  have hA : DataW.TrodAll enc Try.prog W 0 (fun _ => true) true Try.f5.params.toList args.toList ds p := hA0
  rw [Try.params5] at hA hval
  obtain ⟨v0, vs0, d0, ds0, p0, q0, hargs, rfl, rfl, h0, r0⟩ := trodAll_cons hA
  obtain ⟨v1, vs1, d1, ds1, p1, q1, rfl, rfl, rfl, h1, r1⟩ := trodAll_cons r0
  obtain ⟨v2, vs2, d2, ds2, p2, q2, rfl, rfl, rfl, h2, r2⟩ := trodAll_cons r1
  obtain ⟨v3, vs3, d3, ds3, p3, q3, rfl, rfl, rfl, h3, r3⟩ := trodAll_cons r2
  obtain ⟨v4, vs4, d4, ds4, p4, q4, rfl, rfl, rfl, h4, r4⟩ := trodAll_cons r3
  obtain ⟨v5, vs5, d5, ds5, p5, q5, rfl, rfl, rfl, h5, r5⟩ := trodAll_cons r4
  obtain ⟨v6, vs6, d6, ds6, p6, q6, rfl, rfl, rfl, h6, r6⟩ := trodAll_cons r5
  obtain ⟨rfl, rfl, rfl⟩ := trodAll_nil r6
  obtain rfl : args = #[v0, v1, v2, v3, v4, v5, v6] := by cases args; simp_all
  obtain ⟨rfl, rfl⟩ := trodVars_none hV
  obtain ⟨A0, c0, L0, rfl, hI0⟩ := open_nums (hval 0 33 v0 rfl rfl) h0
  obtain ⟨a1, rfl, rfl, rfl, w1⟩ := open_int Try.underlying3 (hval 1 3 v1 rfl rfl) h1
  obtain ⟨a2, rfl, rfl, rfl, w2⟩ := open_int Try.underlying3 (hval 2 3 v2 rfl rfl) h2
  obtain ⟨A3, c3, L3, rfl, wl3, ws3⟩ := open_steps11 (hval 3 43 v3 rfl rfl) h3
  obtain ⟨a4, rfl, rfl, rfl, w4⟩ := open_int Try.underlying3 (hval 4 3 v4 rfl rfl) h4
  obtain ⟨a5, rfl, rfl, rfl, w5⟩ := open_int Try.underlying3 (hval 5 3 v5 rfl rfl) h5
  obtain ⟨a6, rfl, rfl, rfl, w6⟩ := open_int Try.underlying3 (hval 6 3 v6 rfl rfl) h6
  clear hA0 hval0
  simp only [List.append_nil] at hW'
  refine (HeapOne_walk A0 c0 L0 W hI0 a1 w1 a2 w2 A3 c3 L3 wl3 ws3 a4 w4 a5 w5 a6 w6).mono fun e W' ⟨he, hg⟩ => ?_
  subst he
  exact ⟨_, rfl, lift_post (pv := []) hW' (fun _ _ _ => (trodAll_cons_mk (shut_bool Try.underlying4 _) trodAll_mk0)) (fun sp hsp => (trodAll_cons_mk (WideElems.Trod_stays HeapOne_laid (by kernel_rfl) (of_decide_eq_true (by kernel_rfl)) h0 (fun x hx => hg.same (hW'.lt x (by simp [hx]))) (fun x hx => hsp x (by simp [hx]))) (trodAll_cons_mk (shut_int Try.underlying3 w1) (trodAll_cons_mk (shut_int Try.underlying3 w2) (trodAll_cons_mk (WideElems.Trod_stays HeapOne_laid (by kernel_rfl) (of_decide_eq_true (by kernel_rfl)) h3 (fun x hx => hg.same (hW'.lt x (by simp [hx]))) (fun x hx => hsp x (by simp [hx]))) (trodAll_cons_mk (shut_int Try.underlying3 w4) (trodAll_cons_mk (shut_int Try.underlying3 w5) (trodAll_cons_mk (shut_int Try.underlying3 w6) trodAll_mk0)))))))) (fun _ _ => rfl) (by simp)
    hg (ok_one (by kernel_rfl) rfl (okWide_bool_mk Try.underlying4 _))⟩

/-- THE STATEMENT of HeapOne: for every input the call returns true, and each argument reads behind it as before. -/
theorem HeapOne_holds : Rows.HeapOneSaid :=
  OpenClaim.holds_of_wide 5 Try.f5 rfl rfl rfl rfl rfl rfl rfl ⟨rfl, rfl, rfl, rfl, rfl⟩ rfl rfl rfl rfl rfl (by kernel_rfl) Try.func5 (by kernel_rfl)
    (of_decide_eq_true (by kernel_rfl)) (by unfold Func.isWrapper; first | (rw [if_pos (by decide +kernel)]; kernel_rfl) | (rw [if_neg (by decide +kernel)]; exact ⟨rfl, rfl⟩))
    (fun os started H enc _ => HeapOne_lifted os started H enc)
end Go.Proofs.Ytokhcogmoleocaa
