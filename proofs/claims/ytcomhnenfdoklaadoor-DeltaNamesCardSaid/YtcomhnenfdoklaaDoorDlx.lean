/-
  FOR DeltaAnew (layer 14): the walk. Conditions: the table of names lies.
-/
import Derived.Test.YtcomhnenfdoklaaDoorDlu
namespace Go.Proofs.YtcomhnenfdoklaaDoor
set_option maxRecDepth 100000
open Go.RowKit Go.Deep
set_option linter.unusedVariables false
set_option linter.unusedSimpArgs false
theorem CW.read {w0 w w' : World} {gd gw B gr gc : Nat} {most : Int} {q q2 : Cd} {l : List UInt8} {S : ByteArray} {a : Nat} {wr : Int} (h : CW w0 gd gw B most q l w) (hr : Rd w gr S a wr) (hc : CodAt w gc q2) (k : Kp gr (some gc) w w') (hne : gc ≠ gd) (h1 : w0.heap.size ≤ gr) (h2 : w0.heap.size ≤ gc) : CW w0 gd gw B most q l w' := by
  obtain ⟨hd, ⟨v, hv⟩, hB, hbel, hok, n1, n2, n3⟩ := h
  have m1 : gd ≠ gr := hd.not_reader hr
  have m2 : gw ≠ gr := Obj.unlike (w := w) (g := gw) hv.1 hr.1 (by decide)
  have m3 : gw ≠ gc := Obj.unlike (w := w) (g := gw) (g' := gc) (t' := 78) hv.1 hc (by decide)
  have o1 := own_not hv (g := gr) hr.1 (by decide)
  have o2 := own_not hv (g := gc) hc (by decide)
  refine ⟨hd.same (k.block gd hd.lt m1 (fun x => hne (Option.some.inj x).symm)), ⟨v, hv.same (k.block gw hv.1.lt m2 (fun x => m3 (Option.some.inj x))) (fun r hrr => k.block r (hv.row_lt r hrr).2 (fun x => o1 (by rw [← x]; exact hrr.symm)) (fun x => o2 (by rw [← x]; exact hrr.symm)))⟩, Nat.le_trans hB k.size, ?_, hok, n1, n2, n3⟩
  exact ⟨k.os.trans hbel.os, k.tape.trans hbel.tape, k.output.trans hbel.output, Nat.le_trans hbel.size k.size, fun i hi => (k.block i (Nat.lt_of_lt_of_le hi hbel.size) (by omega) (fun x => by have := Option.some.inj x; omega)).trans (hbel.block i hi)⟩
theorem Rd.write {w w' : World} {gr gd gw B : Nat} {S : ByteArray} {a : Nat} {wr : Int} {q : Cd} {most : Int} {l : List UInt8} (h : Rd w gr S a wr) (hc : CodAt w gd q) (hw : Wr w B gw most l) (f : FrT B gw gd w w') : Rd w' gr S a wr := by
  obtain ⟨v, hv⟩ := hw
  exact ⟨f.cells h.1 (by decide) (Obj.unlike (w := w) (g := gr) h.1 hv.1 (by decide)) (Ne.symm (hc.not_reader h)), h.2⟩
theorem CodAt.write {w w' : World} {gc gd gw B : Nat} {q2 : Cd} {most : Int} {l : List UInt8} (h : CodAt w gc q2) (hne : gc ≠ gd) (hw : Wr w B gw most l) (f : FrT B gw gd w w') : CodAt w' gc q2 := f.cells h (by decide) (h.not_writer hw) hne
theorem raw_fits2 {most : Int} {l b : List UInt8} (h : (l.length : Int) + b.length ≤ most) : rawE most l b = 0 ∧ rawL most l b = l ++ b := by
  unfold rawE rawL
  rw [if_pos h, if_pos h]
  exact ⟨rfl, rfl⟩
theorem written2 {q : Cd} {l : List UInt8} {e : Ev} (h : mayT q e = true) (hf : (l.length : Int) + (evB q e).length ≤ 16777216) : wrE q 16777216 l e = 0 ∧ wrL q 16777216 l e = l ++ evB q e ∧ wrQ q 16777216 l e = knowQ q e := by
  obtain ⟨a, b⟩ := raw_fits2 hf
  unfold wrE wrL wrQ
  rw [if_pos h, if_pos h, if_pos ⟨h, a⟩, a, b]
  exact ⟨rfl, rfl, rfl⟩
/-- Where the law is: it has read as far as a, and written these bytes anew. -/
structure AN (w0 : World) (gc gr gd gw B : Nat) (S : ByteArray) (q : Cd) (a : Nat) (w : World) : Prop where
  cw : CW w0 gd gw B 16777216 q (S.data.toList.take a) w
  cod : CodAt w gc q
  rd : Rd w gr S a 0
  ne : gc ≠ gd
  n1 : w0.heap.size ≤ gr
  n2 : w0.heap.size ≤ gc
theorem AN.below {w0 w w' : World} {gc gr gd gw B : Nat} {S : ByteArray} {q : Cd} {a : Nat} (h : AN w0 gc gr gd gw B S q a w) (b : Below w.heap.size w w') : AN w0 gc gr gd gw B S q a w' :=
  ⟨h.cw.below b, h.cod.below b, rd_more h.rd b, h.ne, h.n1, h.n2⟩
theorem Seg.take {S : ByteArray} {a b : Nat} {l : List UInt8} (h : Seg S a b l) : S.data.toList.take b = S.data.toList.take a ++ l := by
  obtain ⟨h1, h2, r, h3⟩ := h
  rw [← h1, List.take_add, h3, List.take_left]
theorem take_len {S : ByteArray} {a : Nat} (h : a ≤ S.size) : (S.data.toList.take a).length = a := by rw [List.length_take, toL_size]; omega
theorem bs_take (S : ByteArray) (a : Nat) : bs (S.data.toList.take a) = S.extract 0 a := by rw [extract_bs]; rfl
set_option maxHeartbeats 4000000 in
theorem anew_walk (w : World) (hek : Ek w) (T V S : Int) (s : ByteArray) (hT : -9223372036854775808 ≤ T ∧ T ≤ 9223372036854775807) (hV : -9223372036854775808 ≤ V ∧ V ≤ 9223372036854775807) (hS : -9223372036854775808 ≤ S ∧ S ≤ 9223372036854775807) (hs : s.size ≤ 9223372036854775807) :
    Calls Tryd.prog 7 #[.int .i64 T, .int .i64 V, .int .i64 S, .string s] w fun r w' => r = .returned (.bool true) ∧ Below w.heap.size w w' := by
  have HAW0 := Lib.hid (awake_any14 w hek)
  have HEK := Lib.hid hek
  by_cases hlt : 5000 < (s.size : Int)
  · clear hek
    go_enter Tryd.func7, Tryd.ntmps7
    go_wp2_with fail
    refine HAW0.out.mono ?_
    rintro _ w1 ⟨rfl, b1⟩
    go_wp2_with fail
    go_ret
    exact ⟨rfl, b1⟩
  have hlt : (s.size : Int) ≤ 5000 := by omega
  clear hek hs
  by_cases hz : sizeD T V S = true
  rotate_left
  · have hz : sizeD T V S = false := by simpa using hz
    have HNO := Lib.hid (fun W => new_noD T V S hz W)
    have HNW := Lib.hid (fun W => new_writer 16777216 (by decide) (by decide) W)
    have HNR := Lib.hid (fun W => new_reader s (by omega) W)
    clear hz
    go_enter Tryd.func7, Tryd.ntmps7
    go_wp2_with fail
    refine HAW0.out.mono ?_
    rintro _ w1 ⟨rfl, b1⟩
    have B1 := Lib.hid b1
    clear b1
    go_wp2_with fail
    refine (HNO.out w1).mono ?_
    rintro _ w2 ⟨rfl, rfl⟩
    go_wp2_with fail
    refine (HNO.out w1).mono ?_
    rintro _ w2 ⟨rfl, rfl⟩
    go_wp2_with fail
    refine (HNW.out w1).mono ?_
    rintro _ w2 ⟨rfl, h2⟩
    have B2 : Hid (Below w.heap.size w w2) := by show Below _ _ _; rw [h2]; exact B1.out.alloc B1.out.size _
    clear h2
    go_wp2_with fail
    refine (HNR.out w2).mono ?_
    rintro _ w3 ⟨rfl, h3⟩
    have B3 : Hid (Below w.heap.size w w3) := by show Below _ _ _; rw [h3]; exact B2.out.alloc B2.out.size _
    clear h3
    go_wp2_with fail
    go_ret
    exact ⟨rfl, B3.out⟩
  have hq0 := newQ_ok hz
  have HNY := Lib.hid (fun W => new_yesD T V S hz W)
  have HNW := Lib.hid (fun W => new_writer 16777216 (by decide) (by decide) W)
  have HNR := Lib.hid (fun W => new_reader s (by omega) W)
  have HQ0 := Lib.hid hq0
  clear hz hq0
  go_enter Tryd.func7, Tryd.ntmps7
  go_wp2_with fail
  refine HAW0.out.mono ?_
  rintro _ w1 ⟨rfl, b1⟩
  have B1 := Lib.hid b1
  clear b1
  go_wp2_with fail
  refine (HNY.out w1).mono ?_
  rintro _ w2 ⟨rfl, h2⟩
  have b2 : Below w1.heap.size w1 w2 := by rw [h2]; exact (Below.refl _ _).alloc (Nat.le_refl _) _
  have c2 : CodAt w2 w1.heap.size (newQ T V S) := by rw [h2]; exact heap_alloc_new w1 _
  have z2 : w1.heap.size < w2.heap.size := c2.lt
  obtain ⟨gc, hgc⟩ : ∃ g, g = w1.heap.size := ⟨_, rfl⟩
  have C2 : Hid (CodAt w2 gc (newQ T V S)) := by rw [hgc]; exact c2
  have N2 : Hid (w.heap.size ≤ gc) := by show _ ≤ _; rw [hgc]; exact B1.out.size
  have L2 : Hid (gc < w2.heap.size) := by show _ < _; omega
  have B2 := Lib.hid (B1.out.trans (b2.mono B1.out.size))
  rw [← hgc]
  clear h2 b2 c2 z2 hgc
  go_wp2_with fail
  refine (HNY.out w2).mono ?_
  rintro _ w3 ⟨rfl, h3⟩
  have b3 : Below w2.heap.size w2 w3 := by rw [h3]; exact (Below.refl _ _).alloc (Nat.le_refl _) _
  have c3 : CodAt w3 w2.heap.size (newQ T V S) := by rw [h3]; exact heap_alloc_new w2 _
  obtain ⟨gd, hgd⟩ : ∃ g, g = w2.heap.size := ⟨_, rfl⟩
  have D3 : Hid (CodAt w3 gd (newQ T V S)) := by rw [hgd]; exact c3
  have C3 : Hid (CodAt w3 gc (newQ T V S)) := C2.out.below b3
  have N3 : Hid (w.heap.size ≤ gd) := by show _ ≤ _; rw [hgd]; exact B2.out.size
  have NE : Hid (gc ≠ gd) := by show _ ≠ _; have := L2.out; omega
  have B3 := Lib.hid (B2.out.trans (b3.mono B2.out.size))
  rw [← hgd]
  clear h3 b3 c3 hgd
  go_wp2_with fail
  refine (HNW.out w3).mono ?_
  rintro _ w4 ⟨rfl, h4⟩
  have b4 : Below w3.heap.size w3 w4 := by rw [h4]; exact (Below.refl _ _).alloc (Nat.le_refl _) _
  have wr4 : Wr w4 (w3.heap.size + 1) w3.heap.size 16777216 [] := by rw [h4]; exact wr_new 16777216 (by decide) (by decide) w3
  have z4 : w3.heap.size + 1 ≤ w4.heap.size := by rw [h4]; simp
  obtain ⟨gw, hgw⟩ : ∃ g, g = w3.heap.size := ⟨_, rfl⟩
  rw [← hgw] at wr4 z4 ⊢
  have CW4 : Hid (CW w gd gw (gw + 1) 16777216 (newQ T V S) [] w4) := ⟨D3.out.below b4, wr4, z4, B3.out.trans (b4.mono B3.out.size), HQ0.out, N3.out, by rw [hgw]; exact B3.out.size, by rw [hgw]; exact Nat.le_succ_of_le B3.out.size⟩
  have C4 : Hid (CodAt w4 gc (newQ T V S)) := C3.out.below b4
  clear h4 b4 wr4 z4 hgw
  go_wp2_with fail
  refine (HNR.out w4).mono ?_
  rintro _ w5 ⟨rfl, h5⟩
  have b5 : Below w4.heap.size w4 w5 := by rw [h5]; exact (Below.refl _ _).alloc (Nat.le_refl _) _
  have rd5 : Rd w5 w4.heap.size s 0 0 := by rw [h5]; exact rd_new s (by omega) w4
  obtain ⟨gr, hgr⟩ : ∃ g, g = w4.heap.size := ⟨_, rfl⟩
  rw [← hgr] at rd5 ⊢
  have A5 : Hid (AN w gc gr gd gw (gw + 1) s (newQ T V S) 0 w5) := ⟨CW4.out.below b5, C4.out.below b5, rd5, NE.out, by rw [hgr]; exact CW4.out.bel.size, N2.out⟩
  have HSZ : Hid ((newQ T V S).T = T ∧ (newQ T V S).V = V ∧ (newQ T V S).S = S) := ⟨rfl, rfl, rfl⟩
  clear h5 b5 rd5 hgr CW4 C4 D3 C3 B3 N3 NE L2 C2 N2 B2 HNY HNW HNR HQ0
  go_wp2_with fail
  go_loopw [17] (fun iv wy => ∃ (j : Nat) (q : Cd) (a : Nat), j ≤ 5000 ∧ iv = .int .i64 j ∧ a ≤ s.size ∧ Hid (AN w gc gr gd gw (gw + 1) s q a wy) ∧ Hid (q.T = T ∧ q.V = V ∧ q.S = S)) (fun iv _ => 5000 - (intOf iv).toNat)
  case atStart => exact ⟨0, _, 0, by omega, rfl, by omega, A5, HSZ⟩
  case round =>
    obtain ⟨j, q, a, hj, rfl, ha, hA, hsz⟩ := hrel
    by_cases hj5 : j < 5000
    · have HRD := Lib.hid (read_anyD q hA.out.cw.ok gc gr s a 0 _ hA.out.cod hA.out.rd)
      have i1 : (j : Int) < 5000 := by omega
      have hback := rd_back hA.out.cw.ok (S := s) (a := a) (wr := 0) ha
      have hup := rd_up hA.out.cw.ok (S := s) (a := a) (wr := 0) ha
      have hbd := rd_b q hA.out.cw.ok s a 0
      unfold ReadP rdV rdQ at HRD
      obtain ⟨x, hx⟩ : ∃ x, rdX q s a 0 = x := ⟨_, rfl⟩
      rw [hx] at HRD hback hup hbd
      obtain ⟨e, a1, wr1⟩ := x
      simp only at HRD hback hup hbd
      clear hx hj5
      by_cases hw1 : wr1 = 0
      rotate_left
      · rw [if_neg hw1, if_neg hw1] at HRD
        have q1 : (wr1 != 0) = true := bne_iff_ne.2 hw1
        have q2 : (wr1 == wr1) = true := by simp
        clear hback hbd
        have HV0 : Hid (evV ev0 = .agg #[.int .u8 0, .int .i64 0, .int .i64 0, .int .i64 0, .int .i64 0, .int .i64 0, .int .u8 0]) := rfl
        rw [HV0.out] at HRD
        go_wp2_with fail
        refine HRD.out.mono ?_
        rintro _ w7 ⟨rfl, r7, c7, k7⟩
        have cw7 := hA.out.cw.read hA.out.rd hA.out.cod k7 hA.out.ne hA.out.n1 hA.out.n2
        have b8 : Below w7.heap.size w7 (w7.alloc (.cells #[.int .u8 0, .int .i64 0, .int .i64 0, .int .i64 0, .int .i64 0, .int .i64 0, .int .u8 0] 41)) := (Below.refl _ _).alloc (Nat.le_refl _) _
        have CW8 := Lib.hid (cw7.below b8)
        have R8 := Lib.hid (rd_more r7 b8)
        have e8 : EvO (w7.alloc (.cells #[.int .u8 0, .int .i64 0, .int .i64 0, .int .i64 0, .int .i64 0, .int .i64 0, .int .u8 0] 41)) w7.heap.size ev0 := heap_alloc_new w7 _
        have E8 := Lib.hid e8
        clear r7 c7 k7 cw7 b8 e8 HRD
        go_wp2_with fail
        generalize w7.alloc (.cells #[.int .u8 0, .int .i64 0, .int .i64 0, .int .i64 0, .int .i64 0, .int .i64 0, .int .u8 0] 41) = w8 at CW8 R8 E8 ⊢
        generalize w7.heap.size = gx at E8 ⊢
        refine (wrong_yes gr s a1 wr1 hw1 w8 R8.out).mono ?_
        rintro _ w9 ⟨rfl, n9, h9⟩
        have b9 : Below w8.heap.size w8 w9 := by rw [h9]; exact drewN_belowW w8 n9
        have CW9 := Lib.hid (CW8.out.below b9)
        obtain ⟨x0, x1, x2, x3, x4, x5, x6⟩ := evsix (E8.out.below b9)
        have HLN := Lib.hid (len_w (gw + 1) gw 16777216 _ w9 CW9.out.wr)
        rw [take_len ha] at HLN
        have HTX := Lib.hid (text_w (gw + 1) gw 16777216 _ w9 CW9.out.wr _ (bs_take s a))
        have i2 : (a : Int) ≤ (a1 : Int) := by omega
        have i3 : (a : Int) ≤ (s.size : Int) := by omega
        unfold ev0 at x0 x1 x2 x3 x4 x5 x6
        simp only at x0 x1 x2 x3 x4 x5 x6
        clear h9 b9 CW8 R8 E8 hw1 hup
        go_wp2_with fail
        refine HLN.out.mono ?_
        rintro _ w10 ⟨rfl, rfl⟩
        go_wp2_with fail
        refine HTX.out.mono ?_
        rintro _ w10 ⟨rfl, rfl⟩
        go_wp2_with fail
        refine HLN.out.mono ?_
        rintro _ w10 ⟨rfl, rfl⟩
        go_wp2_with fail
        go_ret
        exact ⟨rfl, CW9.out.bel⟩
      · subst hw1
        rw [if_pos rfl, if_pos rfl] at HRD
        obtain ⟨_, hmay, hseg⟩ := hback rfl
        have hmb : mayB e q.T q.V q.S = true := by unfold mayT at hmay; rw [Bool.and_eq_true] at hmay; exact hmay.1
        rw [hsz.out.1, hsz.out.2.1, hsz.out.2.2] at hmb
        have HMB := Lib.hid hmb
        have HMT := Lib.hid hmay
        have HSG := Lib.hid hseg
        have HOK := Lib.hid hbd.1
        have HSM := Lib.hid (evB_small hA.out.cw.ok hmay)
        clear hback hmay hseg hbd hmb
        have HVE : Hid (evV e = .agg #[.int .u8 e.kd, .int .i64 e.th, .int .i64 e.tx, .int .i64 e.pl, .int .i64 e.v, .int .i64 e.x, .int .u8 e.why]) := rfl
        rw [HVE.out] at HRD
        go_wp2_with fail
        refine HRD.out.mono ?_
        rintro _ w7 ⟨rfl, r7, c7, k7⟩
        have cw7 := hA.out.cw.read hA.out.rd hA.out.cod k7 hA.out.ne hA.out.n1 hA.out.n2
        have b8 : Below w7.heap.size w7 (w7.alloc (.cells #[.int .u8 e.kd, .int .i64 e.th, .int .i64 e.tx, .int .i64 e.pl, .int .i64 e.v, .int .i64 e.x, .int .u8 e.why] 41)) := (Below.refl _ _).alloc (Nat.le_refl _) _
        have CW8 := Lib.hid (cw7.below b8)
        have R8 := Lib.hid (rd_more r7 b8)
        have C8 := Lib.hid (c7.below b8)
        have e8 : EvO (w7.alloc (.cells #[.int .u8 e.kd, .int .i64 e.th, .int .i64 e.tx, .int .i64 e.pl, .int .i64 e.v, .int .i64 e.x, .int .u8 e.why] 41)) w7.heap.size e := heap_alloc_new w7 _
        have E8 := Lib.hid e8
        clear r7 c7 k7 cw7 b8 e8 HRD
        have HMAY := Lib.hid (fun W (hb : Below w.heap.size w W) => may_any e HOK.out T V S W (HEK.out.below hb))
        rw [HMB.out, HVE.out] at HMAY
        have hle := HSG.out.le
        have hl1 : (s.data.toList.take a).length + (evB q e).length ≤ 5012 := by have := HSM.out.2; rw [take_len ha]; omega
        have HWT := Lib.hid (written2 (l := s.data.toList.take a) HMT.out (by omega))
        have HTK : Hid (s.data.toList.take a ++ evB q e = s.data.toList.take a1) := HSG.out.take.symm
        have ha1 : a1 ≤ s.size := hle.2
        clear hup hle hl1
        go_wp2_with fail
        generalize w7.alloc (.cells #[.int .u8 e.kd, .int .i64 e.th, .int .i64 e.tx, .int .i64 e.pl, .int .i64 e.v, .int .i64 e.x, .int .u8 e.why] 41) = w8 at CW8 R8 E8 C8 ⊢
        generalize w7.heap.size = gx at E8 ⊢
        refine (HMAY.out w8 CW8.out.bel).mono ?_
        rintro _ w9 ⟨rfl, b9⟩
        have CW9 := Lib.hid (CW8.out.below b9)
        have R9 := Lib.hid (rd_more R8.out b9)
        have C9 := Lib.hid (C8.out.below b9)
        obtain ⟨x0, x1, x2, x3, x4, x5, x6⟩ := evsix (E8.out.below b9)
        have hW := write_cw HEK.out CW9.out e HOK.out
        rw [HWT.out.1, HWT.out.2.1, HWT.out.2.2, HTK.out, HVE.out] at hW
        have HW := Lib.hid hW
        clear hW b9 CW8 R8 C8 E8
        go_wp2_with fail
        refine HW.out.mono ?_
        rintro _ w10 ⟨rfl, cw10, f10⟩
        have A10 : Hid (AN w gc gr gd gw (gw + 1) s (knowQ q e) a1 w10) := ⟨cw10, C9.out.write hA.out.ne CW9.out.wr f10, R9.out.write CW9.out.cod CW9.out.wr f10, hA.out.ne, hA.out.n1, hA.out.n2⟩
        have HSZ2 : Hid ((knowQ q e).T = T ∧ (knowQ q e).V = V ∧ (knowQ q e).S = S) := hsz.out
        have HTX := Lib.hid (text_w (gw + 1) gw 16777216 _ w10 A10.out.cw.wr _ (bs_take s a1))
        have HAT := Lib.hid (at_any gr s a1 0 w10 A10.out.rd)
        have i3 : (a1 : Int) ≤ (s.size : Int) := by omega
        clear cw10 f10 CW9 R9 C9 HW x0 x1 x2 x3 x4 x5 x6
        go_wp2_with fail
        refine HTX.out.mono ?_
        rintro _ w11 ⟨rfl, rfl⟩
        go_wp2_with fail
        refine HAT.out.mono ?_
        rintro _ w11 ⟨rfl, rfl⟩
        go_wp2_with fail
        refine ⟨?_, ?measure⟩
        · exact ⟨j + 1, _, a1, by omega, by go_num, ha1, A10, HSZ2⟩
        case measure => simp [intOf]; omega
    · obtain rfl : j = 5000 := by omega
      have HLN := Lib.hid (len_w (gw + 1) gw 16777216 _ _ hA.out.cw.wr)
      rw [take_len ha] at HLN
      have HAT := Lib.hid (at_any gr s a 0 _ hA.out.rd)
      go_wp2_with fail
      refine HAT.out.mono ?_
      rintro _ w10 ⟨rfl, rfl⟩
      go_wp2_with fail
      refine HLN.out.mono ?_
      rintro _ w10 ⟨rfl, rfl⟩
      go_wp2_with fail
      go_ret
      exact ⟨rfl, hA.out.cw.bel⟩
end Go.Proofs.YtcomhnenfdoklaaDoor
