/-
  FOR DeltaBack (layer 14): the walk. Conditions: the table of names lies.
-/
import Derived.Test.YtcomhnenfdoklaaDoorDlz
import Derived.Test.YtcomhnenfdoklaaDoorDlx
namespace Go.Proofs.YtcomhnenfdoklaaDoor
set_option maxRecDepth 100000
open Go.RowKit Go.Deep
set_option linter.unusedVariables false
set_option linter.unusedSimpArgs false
/-- While events are written. -/
structure BK1 (w0 : World) (gc gd gw g9 B : Nat) (q0 : Cd) (e0 : Ev) (M : List Ev) (A : Option Addr) (c : Nat) (w : World) : Prop where
  cw : CW w0 gc gw B 16777216 (knM q0 M) (byM q0 M) w
  cd : CodAt w gd q0
  ev : EvO w g9 e0
  own : w.ownsRow (g9 + 1) 41 7 (.slice A M.length c) M.length (evsC M)
  ok : okM q0 M
  q0ok : CdOk q0
  ne : gc ≠ gd
  n1 : w0.heap.size ≤ gd
  n2 : w0.heap.size ≤ g9
/-- While they are read. -/
structure BK2 (w0 : World) (gc gd gr g9 : Nat) (q0 : Cd) (e0 : Ev) (M : List Ev) (A : Option Addr) (c : Nat) (S : ByteArray) (a j : Nat) (w : World) : Prop where
  cc : CodAt w gc (knM q0 M)
  cd : CodAt w gd (knM q0 (M.take j))
  rd : Rd w gr S a 0
  seg : Seg S a S.size (byM (knM q0 (M.take j)) (M.drop j))
  ok : okM (knM q0 (M.take j)) (M.drop j)
  cok : CdOk (knM q0 (M.take j))
  ev : EvO w g9 e0
  own : w.ownsRow (g9 + 1) 41 7 (.slice A M.length c) M.length (evsC M)
  bel : Below w0.heap.size w0 w
  q1ok : CdOk (knM q0 M)
  ne : gc ≠ gd
  n0 : w0.heap.size ≤ gc
  n1 : w0.heap.size ≤ gd
  n2 : w0.heap.size ≤ g9
  n3 : w0.heap.size ≤ gr
theorem BK2.below {w0 w w' : World} {gc gd gr g9 c a j : Nat} {q0 : Cd} {e0 : Ev} {M : List Ev} {A : Option Addr} {S : ByteArray} (h : BK2 w0 gc gd gr g9 q0 e0 M A c S a j w) (b : Below w.heap.size w w') : BK2 w0 gc gd gr g9 q0 e0 M A c S a j w' :=
  ⟨h.cc.below b, h.cd.below b, rd_more h.rd b, h.seg, h.ok, h.cok, h.ev.below b, own_more h.own b, h.bel.trans (b.mono h.bel.size), h.q1ok, h.ne, h.n0, h.n1, h.n2, h.n3⟩
theorem rEnd_all (S : ByteArray) : rEnd S S.size 0 = (0, 0, S.size, 0) := by
  have h : S.data.toList.drop S.size = [] := List.drop_eq_nil_of_le (by rw [toL_size]; exact Nat.le_refl _)
  unfold rEnd
  rw [h]
  rfl
/-- One event that was read. -/
theorem BK2.read {w0 w w' : World} {gc gd gr g9 c a b j : Nat} {q0 : Cd} {e0 : Ev} {M : List Ev} {A : Option Addr} {S : ByteArray} (h : BK2 w0 gc gd gr g9 q0 e0 M A c S a j w) (hj : j < M.length) (hr : Rd w' gr S b 0) (hd : CodAt w' gd (knowQ (knM q0 (M.take j)) (nthE M j))) (hs : Seg S b S.size (byM (knowQ (knM q0 (M.take j)) (nthE M j)) (M.drop (j + 1)))) (k : Kp gr (some gd) w w') : BK2 w0 gc gd gr g9 q0 e0 M A c S b (j + 1) w' := by
  obtain ⟨d1, d2⟩ := drop_nth hj
  have hok := h.ok
  rw [d1] at hok
  have e1 : knM q0 (M.take (j + 1)) = knowQ (knM q0 (M.take j)) (nthE M j) := by rw [d2, knM_app]; rfl
  have r1 := h.cc.not_reader h.rd
  have r2 : g9 ≠ gr := Obj.unlike (w := w) (g := g9) (t := 41) h.ev h.rd.1 (by decide)
  have r3 : g9 ≠ gd := Obj.unlike (w := w) (g := g9) (t := 41) (t' := 78) h.ev h.cd (by decide)
  refine ⟨h.cc.same (k.block gc h.cc.lt r1 (fun x => h.ne (Option.some.inj x))), by rw [e1]; exact hd, hr, by rw [e1]; exact hs, by rw [e1]; exact hok.2, by rw [e1]; exact know_ok h.cok hok.1.1 ⟨hok.1.2.y0, hok.1.2.y1⟩, h.ev.same (k.block g9 h.ev.lt r2 (fun x => r3 (Option.some.inj x))), own_kp h.own h.cd h.rd k, ⟨k.os.trans h.bel.os, k.tape.trans h.bel.tape, k.output.trans h.bel.output, Nat.le_trans h.bel.size k.size, fun i hi => (k.block i (Nat.lt_of_lt_of_le hi h.bel.size) (by have := h.n3; omega) (fun x => by have := h.n1; have := Option.some.inj x; omega)).trans (h.bel.block i hi)⟩, h.q1ok, h.ne, h.n0, h.n1, h.n2, h.n3⟩
set_option maxHeartbeats 4000000 in
theorem back_walk (w : World) (hek : Ek w) (T V S : Int) (A : Option Addr) (L : List Ev) (c : Nat) (e0 : Ev) (ok0 : EvOk e0) (hT : -9223372036854775808 ≤ T ∧ T ≤ 9223372036854775807) (hV : -9223372036854775808 ≤ V ∧ V ≤ 9223372036854775807) (hS : -9223372036854775808 ≤ S ∧ S ≤ 9223372036854775807) (hl : L.length ≤ 9223372036854775807) (he : EvsAt w w.heap.size A L) :
    Calls Tryd.prog 6 #[.int .i64 T, .int .i64 V, .int .i64 S, .slice A L.length c, evV e0] w fun r w' => r = .returned (.bool true) ∧ Below w.heap.size w w' := by
  obtain ⟨N, hN⟩ : ∃ N, N = L.length := ⟨_, rfl⟩
  obtain ⟨wb, hwb⟩ : ∃ wb, w.alloc (.cells #[.int .u8 e0.kd, .int .i64 e0.th, .int .i64 e0.tx, .int .i64 e0.pl, .int .i64 e0.v, .int .i64 e0.x, .int .u8 e0.why] 41) = wb := ⟨_, rfl⟩
  have hbb : Below w.heap.size w wb := by rw [← hwb]; exact (Below.refl _ _).alloc (Nat.le_refl _) _
  have heb : EvO wb w.heap.size e0 := by rw [← hwb]; exact heap_alloc_new w _
  obtain ⟨g9, hg9⟩ : ∃ g, g = w.heap.size := ⟨_, rfl⟩
  rw [← hg9] at heb
  have HG9 : Hid (w.heap.size ≤ g9) := by show _ ≤ _; omega
  have HWB := Lib.hid hwb
  have BB := Lib.hid hbb
  have EB := Lib.hid heb
  have HNL := Lib.hid hN
  have HE := Lib.hid he
  have HAW := Lib.hid (awake_any14 wb (hek.below hbb))
  have HEK := Lib.hid hek
  have HOK0 := Lib.hid ok0
  have HEV0 : Hid (evV e0 = .agg #[.int .u8 e0.kd, .int .i64 e0.th, .int .i64 e0.tx, .int .i64 e0.pl, .int .i64 e0.v, .int .i64 e0.x, .int .u8 e0.why]) := rfl
  rw [← hN] at hl ⊢
  rw [HEV0.out]
  have HG := Lib.hid hg9
  clear hN he hek hwb hbb heb ok0 hg9
  by_cases hlt : 400 < (N : Int)
  · go_enter Tryd.func6, Tryd.ntmps6
    go_wp2_with fail
    rw [HWB.out]
    refine HAW.out.mono ?_
    rintro _ w1 ⟨rfl, b1⟩
    go_wp2_with fail
    go_ret
    exact ⟨rfl, BB.out.trans (b1.mono BB.out.size)⟩
  have hlt : (N : Int) ≤ 400 := by omega
  by_cases hz : sizeD T V S = true
  rotate_left
  · have hz : sizeD T V S = false := by simpa using hz
    have HNO := Lib.hid (fun W => new_noD T V S hz W)
    have HNW := Lib.hid (fun W => new_writer 16777216 (by decide) (by decide) W)
    clear hz
    go_enter Tryd.func6, Tryd.ntmps6
    go_wp2_with fail
    rw [HWB.out]
    refine HAW.out.mono ?_
    rintro _ w1 ⟨rfl, b1⟩
    have B1 := Lib.hid (BB.out.trans (b1.mono BB.out.size))
    clear b1
    go_wp2_with fail
    refine (HNO.out w1).mono ?_
    rintro _ w2 ⟨rfl, rfl⟩
    go_wp2_with fail
    refine (HNO.out w1).mono ?_
    rintro _ w2 ⟨rfl, rfl⟩
    go_wp2_with fail
    refine (HNW.out w1).mono ?_
    rintro _ w2 ⟨rfl, h2⟩
    have B2 : Hid (Below w.heap.size w w2) := by show Below _ _ _; rw [h2]; exact B1.out.alloc B1.out.size _
    clear h2
    go_wp2_with fail
    go_ret
    exact ⟨rfl, B2.out⟩
  have hq0 := newQ_ok hz
  have HNY := Lib.hid (fun W => new_yesD T V S hz W)
  have HNW := Lib.hid (fun W => new_writer 16777216 (by decide) (by decide) W)
  have HQ0 := Lib.hid hq0
  clear hz hq0
  go_enter Tryd.func6, Tryd.ntmps6
  go_wp2_with fail
  rw [HWB.out, ← HG.out]
  refine HAW.out.mono ?_
  rintro _ w1 ⟨rfl, b1⟩
  have B1 := Lib.hid (BB.out.trans (b1.mono BB.out.size))
  have E1 := Lib.hid (EB.out.below b1)
  clear b1
  go_wp2_with fail
  refine (HNY.out w1).mono ?_
  rintro _ w2 ⟨rfl, h2⟩
  have b2 : Below w1.heap.size w1 w2 := by rw [h2]; exact (Below.refl _ _).alloc (Nat.le_refl _) _
  have c2 : CodAt w2 w1.heap.size (newQ T V S) := by rw [h2]; exact heap_alloc_new w1 _
  have z2 : w1.heap.size < w2.heap.size := c2.lt
  obtain ⟨gc, hgc⟩ : ∃ g, g = w1.heap.size := ⟨_, rfl⟩
  have C2 : Hid (CodAt w2 gc (newQ T V S)) := by rw [hgc]; exact c2
  have N2 : Hid (w.heap.size ≤ gc) := by show _ ≤ _; rw [hgc]; exact B1.out.size
  have L2 : Hid (gc < w2.heap.size) := by show _ < _; omega
  have B2 := Lib.hid (B1.out.trans (b2.mono B1.out.size))
  have E2 := Lib.hid (E1.out.below b2)
  rw [← hgc]
  clear h2 b2 c2 z2 hgc
  go_wp2_with fail
  refine (HNY.out w2).mono ?_
  rintro _ w3 ⟨rfl, h3⟩
  have b3 : Below w2.heap.size w2 w3 := by rw [h3]; exact (Below.refl _ _).alloc (Nat.le_refl _) _
  have c3 : CodAt w3 w2.heap.size (newQ T V S) := by rw [h3]; exact heap_alloc_new w2 _
  obtain ⟨gd, hgd⟩ : ∃ g, g = w2.heap.size := ⟨_, rfl⟩
  have D3 : Hid (CodAt w3 gd (newQ T V S)) := by rw [hgd]; exact c3
  have C3 : Hid (CodAt w3 gc (newQ T V S)) := C2.out.below b3
  have N3 : Hid (w.heap.size ≤ gd) := by show _ ≤ _; rw [hgd]; exact B2.out.size
  have NE : Hid (gc ≠ gd) := by show _ ≠ _; have := L2.out; omega
  have B3 := Lib.hid (B2.out.trans (b3.mono B2.out.size))
  have E3 := Lib.hid (E2.out.below b3)
  rw [← hgd]
  clear h3 b3 c3 hgd
  go_wp2_with fail
  refine (HNW.out w3).mono ?_
  rintro _ w4 ⟨rfl, h4⟩
  have b4 : Below w3.heap.size w3 w4 := by rw [h4]; exact (Below.refl _ _).alloc (Nat.le_refl _) _
  have wr4 : Wr w4 (w3.heap.size + 1) w3.heap.size 16777216 [] := by rw [h4]; exact wr_new 16777216 (by decide) (by decide) w3
  have z4 : w3.heap.size + 1 ≤ w4.heap.size := by rw [h4]; simp
  obtain ⟨gw, hgw⟩ : ∃ g, g = w3.heap.size := ⟨_, rfl⟩
  rw [← hgw] at wr4 z4 ⊢
  have K4 : Hid (BK1 w gc gd gw g9 (gw + 1) (newQ T V S) e0 [] none 0 w4) := ⟨⟨C3.out.below b4, wr4, z4, B3.out.trans (b4.mono B3.out.size), HQ0.out, N2.out, by rw [hgw]; exact B3.out.size, by rw [hgw]; exact Nat.le_succ_of_le B3.out.size⟩, D3.out.below b4, E3.out.below b4, World.ownsRow_nil _ _ _ _, trivial, HQ0.out, NE.out, N3.out, HG9.out⟩
  generalize newQ T V S = q0 at K4
  clear h4 b4 wr4 z4 hgw C3 D3 E3 B3 N3 N2 NE L2 C2 E2 B2 E1 B1 HNY HNW HQ0 EB BB HAW HWB HG HG9 hT hV hS
  go_wp2_with fail
  go_loopw [17, 18] (fun tv iv wr => ∃ (k m : Nat) (M : List Ev) (At : Option Addr) (ct : Nat), k ≤ N ∧ iv = .int .i64 k ∧ tv = .slice At m ct ∧ Hid (m = M.length) ∧ m ≤ k ∧ Hid (BK1 w gc gd gw g9 (gw + 1) q0 e0 M At ct wr) ∧ Hid ((byM q0 M).length ≤ 12 * k)) (fun _ iv _ => N - (intOf iv).toNat)
  case atStart => exact ⟨0, 0, [], none, 0, by omega, rfl, rfl, rfl, by omega, K4, by show _ ≤ _; simp [byM]⟩
  case round =>
    obtain ⟨k, m, M, At, ct, hk, rfl, rfl, hm, hmk, hK, hlen⟩ := hrel
    clear K4
    by_cases hkk : k < N
    · obtain ⟨p, rfl, hp, hev0⟩ := HE.out k (by rw [← HNL.out]; exact hkk)
      have hev := hev0.below hK.out.cw.bel (by rw [add_blockO]; exact hp)
      have hW := write_cw HEK.out hK.out.cw (nthE L k) hev.ok
      have HEV2 := Lib.hid hev0
      have HP := Lib.hid hp
      obtain ⟨c0, c1, c2, c3, c4, c5, c6, ok⟩ := hev
      generalize nthE L k = e at *
      have HOK := Lib.hid ok
      have HEV : Hid (evV e = .agg #[.int .u8 e.kd, .int .i64 e.th, .int .i64 e.tx, .int .i64 e.pl, .int .i64 e.v, .int .i64 e.x, .int .u8 e.why]) := rfl
      rw [HEV.out] at hW
      have HLT := Lib.hid (len_w (gw + 1) gw 16777216 _ _ hK.out.cw.wr)
      have i1 : (k : Int) < (N : Int) := by omega
      have i2 : (0 : Int) ≤ (k : Int) := by omega
      obtain ⟨ln, hln⟩ : ∃ ln, ln = (byM q0 M).length := ⟨_, rfl⟩
      have hln2 : ln ≤ 12 * k := by rw [hln]; exact hlen.out
      rw [← hln] at HLT
      by_cases hmay : mayT (knM q0 M) e = true
      · have hsm := evB_small hK.out.cw.ok hmay
        have hwt := written (l := byM q0 M) hmay (by rw [← hln]; omega)
        rw [hwt.1, hwt.2.1, hwt.2.2] at hW
        have HW := Lib.hid hW
        obtain ⟨b, hb⟩ : ∃ b, b = (evB (knM q0 M) e).length := ⟨_, rfl⟩
        have hbl : (byM q0 M ++ evB (knM q0 M) e).length = ln + b := by rw [List.length_append, hb, hln]
        have HBL := Lib.hid hbl
        have hb1 : 1 ≤ b := by rw [hb]; exact hsm.1
        have hb12 : b ≤ 12 := by rw [hb]; exact hsm.2
        have HLL : Hid ((byM q0 M ++ evB (knM q0 M) e).length ≤ 12 * (k + 1)) := by show _ ≤ _; rw [hbl]; omega
        have i5 : (ln : Int) < (ln : Int) + (b : Int) := by omega
        have i6 : (ln : Int) + (b : Int) ≤ (ln : Int) + 16 := by omega
        have i7 : (ln : Int) ≤ 5000 := by omega
        have i8 : (b : Int) ≤ 12 := by omega
        have HMAY := Lib.hid hmay
        clear hW hsm hwt hb hbl hmay hln hp ok hb1 hb12 hln2 hev0
        go_wp2_with fail
        refine HLT.out.mono ?_
        rintro _ w5 ⟨rfl, rfl⟩
        go_wp2_with fail
        refine HW.out.mono ?_
        rintro _ w5 ⟨rfl, h5, f5⟩
        have D5 := Lib.hid (hK.out.cd.write (Ne.symm hK.out.ne) hK.out.cw.wr f5)
        have E5 := Lib.hid (hK.out.ev.frt hK.out.cw.cod hK.out.cw.wr f5)
        have O5 := Lib.hid (own_frt hK.out.own hK.out.cw.cod hK.out.cw.wr f5)
        have C5 := Lib.hid h5
        have hev5 := HEV2.out.below h5.bel (by rw [add_blockO]; exact HP.out)
        obtain ⟨c0, c1, c2, c3, c4, c5, c6, _⟩ := hev5
        clear h5 f5 HW
        have O5b := Lib.hid (own_more O5.out (show Below w5.heap.size w5 (w5.alloc (.cells (evC e) 41)) from (Below.refl _ _).alloc (Nat.le_refl _) _))
        rw [← hm.out] at O5b
        have hsz : g9 + 1 ≤ (w5.alloc (.cells (evC e) 41)).heap.size := Nat.le_trans E5.out.lt (by simp)
        have HSZ := Lib.hid hsz
        clear hsz
        go_wp2_with (first
          | (refine wpList_plain rfl fun KK hKK => b_lit1 94 e rfl rfl (hKK _ _ ?_))
          | (at_builtin; refine wpList_addE O5b.out HSZ.out (heap_alloc_new w5 _) (by omega) rfl _ _ rfl rfl rfl ?_; intro A6 c6' w6 own6 g6)
          | fail)
        have BA : Hid (Below w5.heap.size w5 (w5.alloc (.cells (evC e) 41))) := (Below.refl _ _).alloc (Nat.le_refl _) _
        have hb6 : byM q0 (M ++ [e]) = byM q0 M ++ evB (knM q0 M) e := by rw [byM_app]; simp [byM]
        have hk6 : knM q0 (M ++ [e]) = knowQ (knM q0 M) e := by rw [knM_app]; rfl
        have hm6 : (M ++ [e]).length = m + 1 := by rw [List.length_append, ← hm.out]; rfl
        have K6 : Hid (BK1 w gc gd gw g9 (gw + 1) q0 e0 (M ++ [e]) A6 c6' w6) := ⟨by rw [hb6, hk6]; exact (C5.out.below BA.out).grown O5b.out (Nat.le_succ_of_le hK.out.n2) g6, (D5.out.below BA.out).grown O5b.out g6, (E5.out.below BA.out).same (g6.block g9 (E5.out.below BA.out).lt (fun x => by
            have := (own_at O5b.out g9 x.symm).1
            omega)), by rw [hm6]; exact own6, (okM_app _ _ _).2 ⟨hK.out.ok, ⟨HMAY.out, HOK.out⟩, trivial⟩, hK.out.q0ok, hK.out.ne, hK.out.n1, hK.out.n2⟩
        have HL6 := Lib.hid (len_w (gw + 1) gw 16777216 _ _ K6.out.cw.wr)
        rw [hb6, HBL.out] at HL6
        have i9 : ((ln + b : Nat) : Int) = (ln : Int) + (b : Int) := by omega
        rw [i9] at HL6
        have HLL6 : Hid ((byM q0 (M ++ [e])).length ≤ 12 * (k + 1)) := by show _ ≤ _; rw [hb6]; exact HLL.out
        have HM6 : Hid (m + 1 = (M ++ [e]).length) := hm6.symm
        clear own6 g6 hb6 hk6 hm6 i9 c0 c1 c2 c3 c4 c5 c6 O5 O5b D5 E5 C5 BA
        go_wp2_with fail
        refine HL6.out.mono ?_
        rintro _ w7 ⟨rfl, rfl⟩
        go_wp2_with fail
        refine HL6.out.mono ?_
        rintro _ w7 ⟨rfl, rfl⟩
        go_wp2_with fail
        refine ⟨?_, ?measure⟩
        · exact ⟨k + 1, m + 1, _, A6, c6', by omega, by go_num, rfl, HM6, by omega, K6, HLL6⟩
        case measure => simp [intOf]; omega
      · have hmay : mayT (knM q0 M) e = false := by simpa using hmay
        have hwt : wrE (knM q0 M) 16777216 (byM q0 M) e = 4 ∧ wrL (knM q0 M) 16777216 (byM q0 M) e = byM q0 M ∧ wrQ (knM q0 M) 16777216 (byM q0 M) e = knM q0 M := by
          unfold wrE wrL wrQ
          rw [hmay]
          exact ⟨by simp, by simp, by simp⟩
        rw [hwt.1, hwt.2.1, hwt.2.2] at hW
        have HW := Lib.hid hW
        have q2 : ((ln : Int) != (ln : Int)) = false := by simp
        have HLL : Hid ((byM q0 M).length ≤ 12 * (k + 1)) := by show _ ≤ _; rw [← hln]; omega
        have HLN := Lib.hid hln
        clear hW hwt hmay hp ok hln2 hev0 hln
        go_wp2_with fail
        refine HLT.out.mono ?_
        rintro _ w5 ⟨rfl, rfl⟩
        go_wp2_with fail
        refine HW.out.mono ?_
        rintro _ w5 ⟨rfl, h5, f5⟩
        have K5 : Hid (BK1 w gc gd gw g9 (gw + 1) q0 e0 M At ct w5) := ⟨h5, hK.out.cd.write (Ne.symm hK.out.ne) hK.out.cw.wr f5, hK.out.ev.frt hK.out.cw.cod hK.out.cw.wr f5, own_frt hK.out.own hK.out.cw.cod hK.out.cw.wr f5, hK.out.ok, hK.out.q0ok, hK.out.ne, hK.out.n1, hK.out.n2⟩
        have HL5 := Lib.hid (len_w (gw + 1) gw 16777216 _ _ h5.wr)
        rw [← HLN.out] at HL5
        clear h5 f5 HW c0 c1 c2 c3 c4 c5 c6
        go_wp2_with fail
        refine HL5.out.mono ?_
        rintro _ w7 ⟨rfl, rfl⟩
        go_wp2_with fail
        refine ⟨?_, ?measure⟩
        · exact ⟨k + 1, m, _, At, ct, by omega, by go_num, rfl, hm, by omega, K5, HLL⟩
        case measure => simp [intOf]; omega
    · obtain rfl : k = N := by omega
      clear hkk HE HNL
      obtain ⟨s, hs⟩ : ∃ s, bs (byM q0 M) = s := ⟨_, rfl⟩
      have hz : (byM q0 M).length ≤ 4800 := by have := hlen.out; omega
      have hss : s.size = (byM q0 M).length := by rw [← hs, bs_size]
      have hsd : s.data.toList = byM q0 M := by rw [← hs, bs_bytes]
      have HTX := Lib.hid (text_w (gw + 1) gw 16777216 _ _ hK.out.cw.wr s hs)
      have HNR := Lib.hid (new_reader s (by omega) wr)
      obtain ⟨w5, hw5⟩ : ∃ w5, wr.alloc (.cells #[.string s, .int .i64 0, .int .i64 0] 95) = w5 := ⟨_, rfl⟩
      have b5 : Below wr.heap.size wr w5 := by rw [← hw5]; exact (Below.refl _ _).alloc (Nat.le_refl _) _
      have rd5 : Rd w5 wr.heap.size s 0 0 := by rw [← hw5]; exact rd_new s (by omega) wr
      rw [hw5] at HNR
      obtain ⟨gr, hgr⟩ : ∃ g, g = wr.heap.size := ⟨_, rfl⟩
      rw [← hgr] at rd5 HNR
      have hseg : Seg s 0 s.size (byM (knM q0 (M.take 0)) (M.drop 0)) := ⟨by rw [hss]; simp [knM], Nat.le_refl _, [], by rw [List.drop_zero, hsd]; simp [knM]⟩
      have G0 : Hid (BK2 w gc gd gr g9 q0 e0 M At ct s 0 0 w5) := ⟨hK.out.cw.cod.below b5, hK.out.cd.below b5, rd5, hseg, hK.out.ok, hK.out.q0ok, hK.out.ev.below b5, own_more hK.out.own b5, hK.out.cw.bel.trans (b5.mono hK.out.cw.bel.size), hK.out.cw.ok, hK.out.ne, hK.out.cw.n1, hK.out.n1, hK.out.n2, by rw [hgr]; exact hK.out.cw.bel.size⟩
      have HM := Lib.hid hm.out
      clear hs hss hsd hw5 b5 rd5 hgr hseg hz hlen hK hm
      go_wp2_with fail
      refine HTX.out.mono ?_
      rintro _ w6 ⟨rfl, rfl⟩
      go_wp2_with fail
      refine HNR.out.mono ?_
      rintro _ w6 ⟨rfl, rfl⟩
      clear HTX HNR
      go_wp2_with fail
      go_loopw [23] (fun iv wy => ∃ (j a : Nat), j ≤ m ∧ iv = .int .i64 j ∧ Hid (BK2 w gc gd gr g9 q0 e0 M At ct s a j wy)) (fun iv _ => m - (intOf iv).toNat)
      case atStart => exact ⟨0, 0, by omega, rfl, G0⟩
      case round =>
        obtain ⟨j, a, hj, rfl, hG⟩ := hrel
        clear G0
        by_cases hjm : j < m
        · have hjl : j < M.length := by rw [← HM.out]; exact hjm
          obtain ⟨d1, d2⟩ := drop_nth hjl
          have hok := hG.out.ok
          have hseg := hG.out.seg
          rw [d1] at hok hseg
          obtain ⟨b, s1, s2⟩ := Seg.split (l := evB (knM q0 (M.take j)) (nthE M j)) (m := byM (knowQ (knM q0 (M.take j)) (nthE M j)) (M.drop (j + 1))) hseg
          have hx := rd_told hG.out.cok hok.1.1 s1
          have hR := read_anyD _ hG.out.cok gd gr s a 0 _ hG.out.cd hG.out.rd
          unfold ReadP rdV rdQ at hR
          rw [hx] at hR
          simp only [if_true] at hR
          obtain ⟨a0, rfl, ha0, hea⟩ := own_ev hG.out.own rfl hjl hok.1.2
          rw [HM.out] at hjm
          have HS2 := Lib.hid s2
          have HJL := Lib.hid hjl
          have HEA := Lib.hid hea
          have HA0 := Lib.hid ha0
          obtain ⟨e, he⟩ : ∃ e, e = nthE M j := ⟨_, rfl⟩
          have HEQ := Lib.hid he
          rw [← he] at hR HEA
          have HEV : Hid (evV e = .agg #[.int .u8 e.kd, .int .i64 e.th, .int .i64 e.tx, .int .i64 e.pl, .int .i64 e.v, .int .i64 e.x, .int .u8 e.why]) := rfl
          rw [HEV.out] at hR
          have HR := Lib.hid hR
          rw [← HM.out] at hjm
          have i1 : (j : Int) < (m : Int) := by omega
          clear d1 d2 hok hseg s1 s2 hx hR hea ha0 he hjl
          go_wp2_with fail
          refine HR.out.mono ?_
          rintro _ w7 ⟨rfl, r7, c7, k7⟩
          have G7 : Hid (BK2 w gc gd gr g9 q0 e0 M (some a0) ct s b (j + 1) w7) := hG.out.read HJL.out r7 (by rw [← HEQ.out]; exact c7) HS2.out k7
          clear r7 c7 k7 HR HS2
          go_wp2_with fail
          have b8 : Below w7.heap.size w7 (w7.alloc (.cells #[.int .u8 e.kd, .int .i64 e.th, .int .i64 e.tx, .int .i64 e.pl, .int .i64 e.v, .int .i64 e.x, .int .u8 e.why] 41)) := (Below.refl _ _).alloc (Nat.le_refl _) _
          have e8 : EvO (w7.alloc (.cells #[.int .u8 e.kd, .int .i64 e.th, .int .i64 e.tx, .int .i64 e.pl, .int .i64 e.v, .int .i64 e.x, .int .u8 e.why] 41)) w7.heap.size e := heap_alloc_new w7 _
          have G8 := Lib.hid (G7.out.below b8)
          have E8 := Lib.hid e8
          clear b8 e8
          generalize w7.alloc (.cells #[.int .u8 e.kd, .int .i64 e.th, .int .i64 e.tx, .int .i64 e.pl, .int .i64 e.v, .int .i64 e.x, .int .u8 e.why] 41) = w8 at G8 E8 ⊢
          generalize w7.heap.size = gx at E8 ⊢
          have hoke : EvOk (nthE M j) := by rw [← HEQ.out]; exact HEA.out.ok
          obtain ⟨a1, ha1, hb1, hea1⟩ := own_ev G8.out.own rfl HJL.out hoke
          obtain rfl := Option.some.inj ha1
          rw [← HEQ.out] at hea1
          refine rgB25 rfl _ (by simp) w8 gx j m ct a0 e hjm E8.out hea1 hb1 rfl rfl rfl rfl ?_
          intro w9 b9
          have G9 := Lib.hid (G8.out.below b9)
          simp only [rgB25_ds, putAll, List.setIfInBounds_toArray, List.set_cons_succ, List.set_cons_zero]
          clear b9 hea1 hb1 hoke ha1 G8 E8 G7
          go_wp2_with fail
          refine ⟨?_, ?measure⟩
          · exact ⟨j + 1, b, by omega, by go_num, G9⟩
          case measure => simp [intOf]; omega
        · obtain rfl : j = m := by omega
          have hml := HM.out
          have t1 : M.take j = M := by rw [hml, List.take_length]
          have t2 : M.drop j = [] := by rw [hml, List.drop_length]
          have hseg := hG.out.seg
          have hcd := hG.out.cd
          rw [t1] at hcd
          rw [t2] at hseg
          have ha : a = s.size := hseg.1
          have hED := rEnd_any gr s a 0 _ hG.out.rd
          unfold EndPost at hED
          rw [ha, rEnd_all] at hED
          have HED := Lib.hid hED
          have HCD := Lib.hid hcd
          have HNW := Lib.hid (fun W => new_writer 100 (by decide) (by decide) W)
          clear hED hcd hseg t1 t2 hml ha
          go_wp2_with fail
          refine HED.out.mono ?_
          rintro _ w6 ⟨rfl, r6, k6⟩
          have c6 : CodAt w6 gc (knM q0 M) := hG.out.cc.same (k6.block gc hG.out.cc.lt (hG.out.cc.not_reader hG.out.rd) (by simp))
          have d6 : CodAt w6 gd (knM q0 M) := HCD.out.same (k6.block gd HCD.out.lt (HCD.out.not_reader hG.out.rd) (by simp))
          have e6 : EvO w6 g9 e0 := hG.out.ev.same (k6.block g9 hG.out.ev.lt (Obj.unlike (g := g9) (t := 41) hG.out.ev hG.out.rd.1 (by decide)) (by simp))
          have b6 : Below w.heap.size w w6 := ⟨k6.os.trans hG.out.bel.os, k6.tape.trans hG.out.bel.tape, k6.output.trans hG.out.bel.output, Nat.le_trans hG.out.bel.size k6.size, fun i hi => (k6.block i (Nat.lt_of_lt_of_le hi hG.out.bel.size) (by have := hG.out.n3; omega) (by simp)).trans (hG.out.bel.block i hi)⟩
          have C6 := Lib.hid c6
          have D6 := Lib.hid d6
          have E6 := Lib.hid e6
          have B6 := Lib.hid b6
          have HN : Hid ((gc ≠ gd ∧ w.heap.size ≤ gc ∧ w.heap.size ≤ gd) ∧ CdOk (knM q0 M)) := ⟨⟨hG.out.ne, hG.out.n0, hG.out.n1⟩, hG.out.q1ok⟩
          clear c6 d6 e6 b6 r6 k6 hG HED HCD
          go_wp2_with fail
          refine (HNW.out w6).mono ?_
          rintro _ w7 ⟨rfl, h7⟩
          have b7 : Below w6.heap.size w6 w7 := by rw [h7]; exact (Below.refl _ _).alloc (Nat.le_refl _) _
          have wr7 : Wr w7 (w6.heap.size + 1) w6.heap.size 100 [] := by rw [h7]; exact wr_new 100 (by decide) (by decide) w6
          have z7 : w6.heap.size + 1 = w7.heap.size := by rw [h7]; simp
          obtain ⟨gu, hgu⟩ : ∃ g, g = w6.heap.size := ⟨_, rfl⟩
          rw [← hgu] at wr7 z7 ⊢
          have W7 := Lib.hid wr7
          have Z7 := Lib.hid z7
          have C7 := Lib.hid (C6.out.below b7)
          have D7 := Lib.hid (D6.out.below b7)
          have E7 := Lib.hid (E6.out.below b7)
          have B7 := Lib.hid (B6.out.trans (b7.mono B6.out.size))
          have N7 : Hid (w.heap.size ≤ gu) := by show _ ≤ _; rw [hgu]; exact B6.out.size
          clear h7 b7 wr7 z7 hgu C6 D6 E6 B6
          go_wp2_with fail
          refine (HNW.out w7).mono ?_
          rintro _ w8 ⟨rfl, h8⟩
          have b8 : Below w7.heap.size w7 w8 := by rw [h8]; exact (Below.refl _ _).alloc (Nat.le_refl _) _
          have o8 : Obj w8 w7.heap.size 84 #[.int .i64 100, .slice none 0 0] := by rw [h8]; exact heap_alloc_new w7 _
          have z8 : w7.heap.size < w8.heap.size := o8.lt
          obtain ⟨gv, hgv⟩ : ∃ g, g = w7.heap.size := ⟨_, rfl⟩
          rw [← hgv] at o8 z8 ⊢
          have bd := (Below.refl w8.heap.size w8).drew
          have W8 : Hid (Wr w8 (gu + 1) gu 100 []) := W7.out.below b8 (Nat.le_refl _)
          have HJ : Hid (J31 w gc gd gu gv g9 (gu + 1) (knM q0 M) e0 (fun _ => false) w8.drew) := ⟨(B7.out.trans (b8.mono B7.out.size)).drew, (E7.out.below b8).below bd, by have := Z7.out; show gu + 1 ≤ w8.heap.size; omega, fun x => (by cases x), fun _ => ⟨(C7.out.below b8).below bd, W8.out.below bd (Nat.le_refl _)⟩, fun x => (by cases x), fun _ => ⟨(D7.out.below b8).below bd, o8⟩, fun x => (by cases x)⟩
          have HUV : Hid (gu ≠ gv ∧ w.heap.size ≤ gv ∧ w.heap.size ≤ gu + 1) := ⟨by have := Z7.out; omega, by rw [hgv]; exact B7.out.size, Nat.le_succ_of_le N7.out⟩
          clear h8 b8 o8 z8 hgv bd W8 W7 Z7 C7 D7 E7 B7 HNW
          go_wp2_with fail
          refine rgB31 rfl _ (by simp) w w8 HEK.out gc gd gu gv g9 (gu + 1) (knM q0 M) HN.out.2 e0 HOK0.out HJ.out HN.out.1.1 HUV.out.1 HN.out.1.2.1 N7.out HUV.out.2.2 HN.out.1.2.2 HUV.out.2.1 rfl rfl rfl rfl rfl rfl rfl ?_
          intro w9 b9
          simp only [rgB31_ds, rgB31_vs, putAll, List.setIfInBounds_toArray, List.set_cons_succ, List.set_cons_zero]
          have B9 := Lib.hid b9
          clear b9 HJ HUV HN
          go_wp2_with fail
          go_ret
          exact ⟨rfl, B9.out⟩
end Go.Proofs.YtcomhnenfdoklaaDoor
