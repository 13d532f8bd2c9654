/-
  HeapPlays: for every input the call returns true, and each argument reads behind it as before. No condition. (Each answer, and all that a heap has, are the document's own; what is done to a copy is not seen.) Laid by gen/gen_hp.py.
-/
import Derived.Test.YtokhcogmoleocaaTk
import Derived.Test.YtokhcogmoleocaaLift
namespace Go.Proofs.Ytokhcogmoleocaa
set_option maxRecDepth 100000
open Go.RowKit Go.Deep
open Go.ChangeShapes Go.WideShapes
set_option linter.unusedVariables false
set_option maxHeartbeats 4000000 in
theorem plays_big (A A' : Option Addr) (c c' : Nat) (n m : Nat) (hn : n ≤ 9223372036854775807) (hm : m ≤ 9223372036854775807) (h : 100 < n ∨ 300 < m) (st limit : Int) (w : World) : Calls Try.prog 4 #[.slice A n c, .int .i64 st, .int .i64 limit, .slice A' m c'] w fun e w' => e = .returned (.bool true) ∧ Below w.heap.size w w' := by
  by_cases h1 : 100 < n
  · have q1 : (100 : Int) < (n : Int) := by omega
    go_enter Try.func4, Try.ntmps4
    go_wp2_with fail
    go_ret
    exact ⟨rfl, Below.refl _ _⟩
  · have q1 : ¬ (100 : Int) < (n : Int) := by omega
    have q2 : (300 : Int) < (m : Int) := by omega
    go_enter Try.func4, Try.ntmps4
    go_wp2_with fail
    go_ret
    exact ⟨rfl, Below.refl _ _⟩
set_option maxHeartbeats 4000000 in
theorem plays_no {L : List Int} {st limit : Int} (hbad : badH L.length st limit = true) (A A' : Option Addr) (c c' : Nat) (m : Nat) (h1 : L.length ≤ 100) (h2 : m ≤ 300) (w : World) : Calls Try.prog 4 #[.slice A L.length c, .int .i64 st, .int .i64 limit, .slice A' m c'] w fun e w' => e = .returned (.bool true) ∧ Below w.heap.size w w' := by
  have q1 : ¬ (100 : Int) < (L.length : Int) := by omega
  have q2 : ¬ (300 : Int) < (m : Int) := by omega
  have HP := Lib.hid (hnew_no hbad A c (by omega))
  have HQ := Lib.hid (rnew_no hbad A c (by omega))
  go_enter Try.func4, Try.ntmps4
  go_wp2_with fail
  refine (HP.out w).mono ?_
  rintro e w' ⟨rfl, rfl⟩
  dsimp only
  go_wp2_with fail
  refine (HQ.out w).mono ?_
  rintro e w' ⟨rfl, rfl⟩
  dsimp only
  go_wp2_with fail
  go_ret
  exact ⟨rfl, Below.refl _ _⟩
set_option maxHeartbeats 16000000 in
theorem plays_yes {L : List Int} {st limit : Int} (hok : badH L.length st limit = false) {w : World} {A A' : Option Addr} (c c' : Nat) (hI : Ints w w.heap.size A L) {S : List S11} (hS : Steps11 w w.heap.size A' S) (h1 : L.length ≤ 100) (h2 : S.length ≤ 300) : Calls Try.prog 4 #[.slice A L.length c, .int .i64 st, .int .i64 limit, .slice A' S.length c'] w fun e w' => e = .returned (.bool true) ∧ Below w.heap.size w w' := by
  have q1 : ¬ (100 : Int) < (L.length : Int) := by omega
  have q2 : ¬ (300 : Int) < (S.length : Int) := by omega
  have HOK := Lib.hid hok
  have HBN := Lib.hid (HB.new hok)
  have HON := Lib.hid (HO.new hok)
  have HI := Lib.hid hI
  have HS := Lib.hid hS
  clear hok hI hS
  go_enter Try.func4, Try.ntmps4
  go_wp2_with fail
  refine (hnew_yes HOK.out c HI.out).mono ?_
  rintro e w1 ⟨g, rfl, hH, hg, hb1⟩
  have B1 := Lib.hid hb1
  have H1 := Lib.hid hH
  have I1 := Lib.hid (ints_up11 (HI.out.below hb1 (Nat.le_refl _)) hb1.size)
  have HG : Hid (w.heap.size ≤ g ∧ g < w1.heap.size) := ⟨hg, hH.lt⟩
  clear hH hg hb1
  dsimp only
  go_wp2_with fail
  refine (rnew_yes HOK.out c I1.out).mono ?_
  rintro e w2 ⟨q, rfl, hR, hq, hb2⟩
  obtain ⟨lo, hlo⟩ : ∃ lo, lo = w1.heap.size := ⟨_, rfl⟩
  have R2 := Lib.hid hR
  have B2 := Lib.hid (B1.out.trans (hb2.mono B1.out.size))
  have H2 := Lib.hid (H1.out.below hb2 HG.out.2)
  have HGQ : Hid (w.heap.size ≤ g ∧ g < lo ∧ lo ≤ q ∧ g ≠ q) := ⟨HG.out.1, by rw [hlo]; exact HG.out.2, by rw [hlo]; exact hq, by have := HG.out.2; omega⟩
  have Z2 : Hid (lo ≤ w2.heap.size) := by show _ ≤ _; rw [hlo]; exact hb2.size
  rw [← hlo] at R2
  clear hR hq hb2 hlo HG B1 H1 I1 HI HOK
  dsimp only
  go_wp2_with fail
  go_loopw [13] (fun i wr => ∃ (k : Nat) (f : Nat → Int), k ≤ S.length ∧ i = .int .i64 k ∧ Hid (HeapAt wr g f ∧ RefH wr q lo f) ∧ Hid (HB f ∧ HO f) ∧ Hid (Below w.heap.size w wr ∧ lo ≤ wr.heap.size)) (fun i _ => S.length - (intOf i).toNat)
  case atStart => exact ⟨0, newF L st limit, by omega, by go_num, ⟨H2.out, R2.out⟩, ⟨HBN.out, HON.out⟩, B2.out, Z2.out⟩
  case round =>
    obtain ⟨k, f, hk, rfl, hH, hF, hB⟩ := hrel
    clear H2 R2 B2 Z2
    by_cases hlt : k < S.length
    · obtain ⟨p, rfl, mp, hs⟩ := HS.out k hlt
      have i1 : (0 : Int) ≤ (k : Int) := by omega
      have i2 : (k : Int) < (S.length : Int) := by omega
      have MP : Hid ((p.add (k * 5)).block < w.heap.size) := by show _ < _; rw [ad_block]; exact mp
      have HSK := Lib.hid hs
      obtain ⟨s, hs9⟩ : ∃ s, s = nth11 S k := ⟨_, rfl⟩
      rw [← hs9] at HSK
      clear hs mp hs9
      go_wp2_with fail
      refine (hcopy_any hH.out.1).mono ?_
      rintro e w3 ⟨rfl, hC, b3⟩
      obtain ⟨gw, hgw⟩ : ∃ gw, gw = wr.heap.size := ⟨_, rfl⟩
      have HGW : Hid (wr.heap.size ≤ gw) := by show _ ≤ _; rw [hgw]; exact Nat.le_refl _
      rw [← hgw] at hC ⊢
      have C3 := Lib.hid hC
      have b3 := Lib.hid b3
      clear hC hgw
      dsimp only
      go_wp2_with fail
      refine (set_any11 C3.out hF.out.1 0 77).mono ?_
      rintro e w4 ⟨rfl, hU⟩
      have b4 := Lib.hid (b3.out.trans (hU.low _ HGW.out))
      have C4 := Lib.hid hU.at'
      have F4 := Lib.hid (hF.out.1.set 0 77)
      clear hU C3 b3
      generalize setC11 f 0 77 = f4 at C4 F4
      dsimp only
      go_wp2_with fail
      refine (own_any C4.out F4.out 0 1).mono ?_
      rintro e w5 ⟨rfl, hU⟩
      have b5 := Lib.hid (b4.out.trans (hU.low _ HGW.out))
      have C5 := Lib.hid hU.at'
      have F5 := Lib.hid (F4.out.own 0 1)
      clear hU C4 b4 F4
      generalize ownC f4 0 1 = f5 at C5 F5
      dsimp only
      go_wp2_with fail
      refine (bump_any C5.out F5.out).mono ?_
      rintro e w6 ⟨rfl, hU⟩
      have b6 := b5.out.trans (hU.low _ HGW.out)
      have B6 := Lib.hid (hB.out.1.trans (b6.mono hB.out.1.size))
      have H6 := Lib.hid (hH.out.1.below b6 hH.out.1.lt)
      have R6 := Lib.hid (hH.out.2.below b6)
      have Z6 : Hid (lo ≤ w6.heap.size) := Nat.le_trans hB.out.2 b6.size
      clear hU C5 b5 F5 b6 hH hB HGW
      have hsw := HSK.out.below B6.out MP.out
      have e0 := hsw.c0
      have e1 := hsw.c1
      have e2 := hsw.c2
      have e3 := hsw.c3
      have e4 := hsw.c4
      have HD := Lib.hid (do_any H6.out hF.out.1 s)
      have HRD : Hid (∀ w7, RefH w7 q lo f → lo ≤ w7.heap.size → Calls Try.prog 31 #[s.v, .pointer (some ⟨q, 0, none⟩)] w7 fun e w' => e = .returned (.tuple #[.int .i64 (doN f s), .int .i64 (doE f s)]) ∧ UpdR w7 q lo (doC f s) w') := fun w7 h7 h8 => rdo_any h7 hF.out.1 hF.out.2 h8 s
      have FN : Hid (HB (doC f s) ∧ HO (doC f s)) := ⟨hF.out.1.step s, hF.out.2.step s⟩
      unfold S11.v at HD HRD
      obtain ⟨d, hd⟩ : ∃ d, d = doC f s := ⟨_, rfl⟩
      obtain ⟨er, her⟩ : ∃ er, er = doE f s := ⟨_, rfl⟩
      obtain ⟨nr, hnr⟩ : ∃ nr, nr = doN f s := ⟨_, rfl⟩
      rw [← hd, ← her, ← hnr] at HD HRD
      rw [← hd] at FN
      clear hsw hd her hnr
      dsimp only
      go_wp2_with fail
      refine HD.out.mono ?_
      rintro e w7 ⟨rfl, hU⟩
      have H7 := Lib.hid hU.at'
      have R7 := Lib.hid (R6.out.keep g HGQ.out.2.2.2 HGQ.out.2.1 hU.far hU.size)
      have B7 := Lib.hid (B6.out.trans (hU.low _ HGQ.out.1))
      have Z7 : Hid (lo ≤ w7.heap.size) := Nat.le_trans Z6.out hU.size
      clear hU HD H6 R6 B6 Z6 e0 e1 e2 e3 e4
      have hsw := HSK.out.below B7.out MP.out
      have e0 := hsw.c0
      have e1 := hsw.c1
      have e2 := hsw.c2
      have e3 := hsw.c3
      have e4 := hsw.c4
      have HR7 := Lib.hid (HRD.out w7 R7.out Z7.out)
      clear hsw HRD
      dsimp only
      go_wp2_with fail
      refine HR7.out.mono ?_
      rintro e w8 ⟨rfl, hU⟩
      have H8 := Lib.hid (H7.out.same (hU.far g HGQ.out.2.2.2 H7.out.lt))
      have R8 := Lib.hid hU.at'
      have B8 := Lib.hid (B7.out.trans (hU.low _ (by have := HGQ.out; omega)))
      have Z8 : Hid (lo ≤ w8.heap.size) := Nat.le_trans Z7.out hU.size
      have n1 : (nr != nr) = false := bne_eq_false_iff_eq.2 rfl
      have n2 : (er != er) = false := bne_eq_false_iff_eq.2 rfl
      clear hU HR7 H7 R7 B7 Z7 e0 e1 e2 e3 e4 HSK MP
      dsimp only
      go_wp2_with fail
      refine (like_any H8.out R8.out FN.out.1).mono ?_
      rintro e w9 ⟨rfl, hb⟩
      have H9 := Lib.hid (H8.out.below hb H8.out.lt)
      have R9 := Lib.hid (R8.out.below hb)
      have B9 := Lib.hid (B8.out.trans (hb.mono B8.out.size))
      have Z9 : Hid (lo ≤ w9.heap.size) := Nat.le_trans Z8.out hb.size
      clear hb H8 R8 B8 Z8
      dsimp only
      go_wp2_with fail
      go_roundw
      case rel => exact ⟨k + 1, d, by omega, by go_num, ⟨H9.out, R9.out⟩, FN, B9.out, Z9.out⟩
      case measure => simp [intOf]; omega
    · obtain rfl : k = S.length := by omega
      have i2 : ¬ (S.length : Int) < (S.length : Int) := by omega
      go_wp2_with fail
      refine (hcopy_any hH.out.1).mono ?_
      rintro e w3 ⟨rfl, hC, b3⟩
      have C3 := Lib.hid hC
      have H3 := Lib.hid (hH.out.1.below b3 hH.out.1.lt)
      have R3 := Lib.hid (hH.out.2.below b3)
      have B3 := Lib.hid (hB.out.1.trans (b3.mono hB.out.1.size))
      clear hC b3
      dsimp only
      go_wp2_with fail
      refine (like_any C3.out R3.out hF.out.1).mono ?_
      rintro e w4 ⟨rfl, b4⟩
      have H4 := Lib.hid (H3.out.below b4 H3.out.lt)
      have B4 := Lib.hid (B3.out.trans (b4.mono B3.out.size))
      clear b4 C3 H3 R3 B3
      dsimp only
      go_wp2_with fail
      refine (hcopy_any H4.out).mono ?_
      rintro e w5 ⟨rfl, hC, b5⟩
      have H5 := Lib.hid (H4.out.below b5 H4.out.lt)
      have SM := Lib.hid (same_any H5.out hC)
      have B5 := Lib.hid (B4.out.trans (b5.mono B4.out.size))
      clear hC b5 B4 H4
      dsimp only
      go_wp2_with fail
      refine SM.out.mono ?_
      rintro e w6 ⟨r, rfl, hr, b6⟩
      obtain rfl : r = true := hr.2 (fun j _ => by first | rfl | trivial)
      have B6 := Lib.hid (B5.out.trans (b6.mono B5.out.size))
      clear hr b6 SM
      dsimp only
      go_wp2_with fail
      go_ret
      exact ⟨rfl, B6.out⟩
theorem HeapPlays_walk (A : Option Addr) (c : Nat) (L : List Int) (w : World) (hI : Ints w w.heap.size A L) (st : Int) (h1 : (Lit.int .i64 st).wf = true) (limit : Int) (h2 : (Lit.int .i64 limit).wf = true) (A' : Option Addr) (c' : Nat) (S : List S11) (hn : S.length ≤ 9223372036854775807) (hS : Steps11 w w.heap.size A' S) :
    Calls Try.prog 4 #[.slice A L.length c, .int .i64 st, .int .i64 limit, .slice A' S.length c'] w fun e w' => e = .returned (.bool true) ∧ Below w.heap.size w w' := by
  by_cases h : 100 < L.length ∨ 300 < S.length
  · exact plays_big A A' c c' _ _ hI.len hn h st limit w
  · cases hb : badH L.length st limit with
    | true => exact plays_no hb A A' c c' _ (by omega) (by omega) w
    | false => exact plays_yes hb c c' hI hS (by omega) (by omega)
theorem HeapPlays_laid : laidOutB Try.prog = true := by kernel_rfl
set_option maxRecDepth 100000 in
theorem HeapPlays_lifted (os : Os) (started : os.Started) (H : Type) (enc : TypeId × Value → H) :
    ReturnsInHanded {} Try.checked os 4 .any (Rows.heapPlaysSpec.pre6 enc Try.prog Try.f4 Rows.heapPlaysRow.domain false) (Rows.heapPlaysSpec.post enc Try.prog Try.f4 false true false false) := by
  refine returnsInHanded_of_change (C := Try.checked) lift_own started (by kernel_rfl) Try.func4
    (ChangeSpec.witness6 (enc := enc) (C := Try.checked) false ⟨#[], #[.slice none 0 0, .int .i64 0, .int .i64 0, .slice none 0 0], []⟩ 8 (by kernel_rfl) (by kernel_rfl) (by kernel_rfl) (by kernel_rfl)) ?_
  intro W base args ds gs before hval0 hW hcnd _
  have hval : ∀ (j : Nat) t v, Try.f4.params[j]? = some t → args[j]? = some v → Value.okWide Try.prog W .any base t v := hval0
  have hW' := hW
  obtain ⟨p, q, hA0, hV, rfl, hfz, hnd⟩ := hW
  have hA : DataW.TrodAll enc Try.prog W 0 (fun _ => true) true Try.f4.params.toList args.toList ds p := hA0
  rw [Try.params4] at hA hval
  obtain ⟨v0, vs0, d0, ds0, p0, q0, hargs, rfl, rfl, h0, r0⟩ := trodAll_cons hA
  obtain ⟨v1, vs1, d1, ds1, p1, q1, rfl, rfl, rfl, h1, r1⟩ := trodAll_cons r0
  obtain ⟨v2, vs2, d2, ds2, p2, q2, rfl, rfl, rfl, h2, r2⟩ := trodAll_cons r1
  obtain ⟨v3, vs3, d3, ds3, p3, q3, rfl, rfl, rfl, h3, r3⟩ := trodAll_cons r2
  obtain ⟨rfl, rfl, rfl⟩ := trodAll_nil r3
  obtain rfl : args = #[v0, v1, v2, v3] := by cases args; simp_all
  obtain ⟨rfl, rfl⟩ := trodVars_none hV
  obtain ⟨A0, c0, L0, rfl, hI0⟩ := open_nums (hval 0 33 v0 rfl rfl) h0
  obtain ⟨a1, rfl, rfl, rfl, w1⟩ := open_int Try.underlying3 (hval 1 3 v1 rfl rfl) h1
  obtain ⟨a2, rfl, rfl, rfl, w2⟩ := open_int Try.underlying3 (hval 2 3 v2 rfl rfl) h2
  obtain ⟨A3, c3, L3, rfl, wl3, ws3⟩ := open_steps11 (hval 3 43 v3 rfl rfl) h3
  clear hA0 hval0
  simp only [List.append_nil] at hW'
  refine (HeapPlays_walk A0 c0 L0 W hI0 a1 w1 a2 w2 A3 c3 L3 wl3 ws3).mono fun e W' ⟨he, hg⟩ => ?_
  subst he
  exact ⟨_, rfl, lift_post (pv := []) hW' (fun _ _ _ => (trodAll_cons_mk (shut_bool Try.underlying4 _) trodAll_mk0)) (fun sp hsp => (trodAll_cons_mk (WideElems.Trod_stays HeapPlays_laid (by kernel_rfl) (of_decide_eq_true (by kernel_rfl)) h0 (fun x hx => hg.same (hW'.lt x (by simp [hx]))) (fun x hx => hsp x (by simp [hx]))) (trodAll_cons_mk (shut_int Try.underlying3 w1) (trodAll_cons_mk (shut_int Try.underlying3 w2) (trodAll_cons_mk (WideElems.Trod_stays HeapPlays_laid (by kernel_rfl) (of_decide_eq_true (by kernel_rfl)) h3 (fun x hx => hg.same (hW'.lt x (by simp [hx]))) (fun x hx => hsp x (by simp [hx]))) trodAll_mk0))))) (fun _ _ => rfl) (by simp)
    hg (ok_one (by kernel_rfl) rfl (okWide_bool_mk Try.underlying4 _))⟩

/-- THE STATEMENT of HeapPlays: for every input the call returns true, and each argument reads behind it as before. -/
theorem HeapPlays_holds : Rows.HeapPlaysSaid :=
  OpenClaim.holds_of_wide 4 Try.f4 rfl rfl rfl rfl rfl rfl rfl ⟨rfl, rfl, rfl, rfl, rfl⟩ rfl rfl rfl rfl rfl (by kernel_rfl) Try.func4 (by kernel_rfl)
    (of_decide_eq_true (by kernel_rfl)) (by unfold Func.isWrapper; first | (rw [if_pos (by decide +kernel)]; kernel_rfl) | (rw [if_neg (by decide +kernel)]; exact ⟨rfl, rfl⟩))
    (fun os started H enc _ => HeapPlays_lifted os started H enc)
end Go.Proofs.Ytokhcogmoleocaa
