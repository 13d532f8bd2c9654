/-
  LAYER 7: Decode, of any frame. Conditions: code's and pack's tables lie as they are laid; frames of at most 2^24 bytes.
-/
import Derived.Test.YtpgkhodofhnpnaaDoorPv
import Derived.Test.YtpgkhodofhnpnaaDoorFu
namespace Go.Proofs.YtpgkhodofhnpnaaDoor
set_option maxRecDepth 100000
open Go.RowKit
set_option linter.unusedVariables false
def su00 : Value := .agg #[.int .i64 0, .int .i64 0, .int .i64 0, .slice none 0 0, .slice none 0 0]
/-- What Decode tells of a body in a frame. -/
def Dec7 (b : ByteArray) (w : World) (e : Ending) (w' : World) : Prop := Below w.heap.size w w' ∧ match pBody b.data.toList (okF 14) with
  | .error (p, er) => e = .returned (.tuple #[su00, .int .i64 ((numS b.size).size + p : Nat), .int .i64 er])
  | .ok (y, _) => ∃ (I T : Option Addr) (c c' : Nat), e = .returned (.tuple #[.agg #[.int .i64 y.st, .int .i64 y.cl, .int .i64 y.tr, .slice I y.init.length c, .slice T y.thr.length c'], .int .i64 0, .int .i64 0]) ∧ SuAt w' w.heap.size w'.heap.size 14 I T y ∧ y.thr.length ≤ 6
def rdW (w1 : World) (b : ByteArray) : World := (w1.alloc (.cells #[.string b, .int .i64 0, .int .i64 0] 82)).alloc (.cells #[.pointer (some ⟨w1.heap.size, 0, none⟩), .int .i64 0] 61)
theorem rdW_pr (w1 : World) (b : ByteArray) (hb : b.size ≤ 16777216) : PR (rdW w1 b) (w1.heap.size + 1) w1.heap.size b 0 0 0 := by
  refine ⟨?_, (Obj.made w1 _ _).more _, by omega, hb⟩
  have := Obj.made (w1.alloc (.cells #[.string b, .int .i64 0, .int .i64 0] 82)) 61 #[.pointer (some ⟨w1.heap.size, 0, none⟩), .int .i64 0]
  rw [show (w1.alloc (.cells #[.string b, .int .i64 0, .int .i64 0] 82)).heap.size = w1.heap.size + 1 by simp] at this
  exact this
theorem rdW_below (w1 : World) (b : ByteArray) : Below w1.heap.size w1 (rdW w1 b) := ((Below.refl _ _).alloc (Nat.le_refl _) _).alloc (by simp) _
theorem Pt.below {w w' : World} {B : Nat} (h : Pt w) (hb : Below B w w') (hB : w.heap.size ≤ B) : Pt w' := fun k hk => (hb.cell (p := ⟨0, k, none⟩) (Nat.lt_of_lt_of_le h.pos hB)).trans (h k hk)
theorem SuAt.same {w w' : World} {lo hi d : Nat} {I T : Option Addr} {s : Su} (h : SuAt w lo hi d I T s) (hk : ∀ p : Addr, lo ≤ p.block ∧ p.block < hi → w'.cell? p = w.cell? p) (hI : ∀ p, I = some p → lo ≤ p.block) : SuAt w' lo hi d I T s := by
  refine { h with ini := ⟨h.ini.len, fun j hj => ?_⟩, thr := fun j hj => ?_ }
  · obtain ⟨a, rfl, b1, c⟩ := h.ini.cell j hj
    exact ⟨a, rfl, b1, (hk (a.add j) ⟨by rw [ad_block]; exact hI a rfl, by rw [ad_block]; exact b1⟩).trans c⟩
  · obtain ⟨p, B, c, e1, m1, m2, t1, l1, hx⟩ := h.thr j hj
    refine ⟨p, B, c, e1, m1, m2, (hk _ ⟨by rw [ad_block]; exact m1, by rw [ad_block]; exact m2⟩).trans t1, l1, fun i hi' => ?_⟩
    obtain ⟨p', C, c2, e2, n1, n2, t2, l2, s2⟩ := hx i hi'
    refine ⟨p', C, c2, e2, n1, n2, (hk _ ⟨by rw [ad_block]; exact n1, by rw [ad_block]; exact n2⟩).trans t2, l2, fun u hu => ?_⟩
    obtain ⟨p3, r, e3, q1, q2, t3, s3⟩ := s2 u hu
    exact ⟨p3, r, e3, q1, q2, t3.keep fun z hz => hk z ⟨by rw [hz, ad_block]; exact q1, by rw [hz, ad_block]; exact q2⟩, s3.keep (fun p h1 h2 => hk p ⟨h1, h2⟩) d⟩
theorem SuAt.set1 {w w' : World} {lo hi d X : Nat} {I T : Option Addr} {s : Su} (h : SuAt w lo hi d I T s) (k : Set1 X w w') (hX : X < lo) (hI : ∀ p, I = some p → lo ≤ p.block) : SuAt w' lo hi d I T s :=
  h.same (fun p h1 => World.cell?_of_block (k.block p.block (by omega))) hI
theorem some_ne {i q : Nat} (h : i ≠ q) : some i ≠ some q := fun e => h (Option.some.inj e)
theorem kp_low {w w1 w' : World} {q g : Nat} (hb : Below w.heap.size w w1) (k : Kp g (some q) w1 w') (hq : w.heap.size ≤ q) (hg : w.heap.size ≤ g) : Below w.heap.size w w' :=
  hb.trans ⟨k.os, k.tape, k.output, k.size, fun i hi => k.block i (by have := hb.size; omega) (by omega) (some_ne (by omega))⟩
/-- The ways in which a body ends. -/
theorem body_ways (b : ByteArray) (x : Su) (A7 : Nat) (W7 : Int) (hA : A7 = outAt (pSu b.data.toList) 0 0) (hW : W7 = outWr (pSu b.data.toList) 0) (hc : ∀ y p, pSu b.data.toList = .ok (y, p) → SuCut x y) (hle : A7 ≤ b.size) :
    (∃ (p : Nat) (er : Int), er ≠ 0 ∧ (rEnd b A7 W7).2.1 = er ∧ (rEnd b A7 W7).2.2 = (p, er) ∧ pBody b.data.toList (okF 14) = .error (p, er)) ∨
    ((rEnd b A7 W7).2.1 = 0 ∧ (rEnd b A7 W7).2.2 = (A7, 0) ∧ okF 14 x = true ∧ ∃ p, pBody b.data.toList (okF 14) = .ok (x, p)) ∨
    ((rEnd b A7 W7).2.1 = 0 ∧ (rEnd b A7 W7).2.2 = (A7, 0) ∧ okF 14 x = false ∧ pBody b.data.toList (okF 14) = .error (A7, 4)) := by
  have hlen : b.data.toList.length = b.size := by rw [Array.length_toList]; rfl
  unfold pBody
  match hr : pSu b.data.toList with
  | .error (p, e) =>
    have he : e ≠ 0 := by
      have := good_su (s := b.data.toList)
      rw [hr] at this
      exact this.2.1
    obtain ⟨rfl, rfl⟩ := out_bad hr hA hW
    refine .inl ⟨A7, W7, he, ?_, ?_, rfl⟩
    · unfold rEnd; rw [rd_w he]
    · unfold rEnd; rw [rd_w he]
  | .ok (y, p) =>
    obtain ⟨rfl, rfl⟩ := out_fine hr hA hW
    rw [ok_then]
    by_cases hp : A7 < b.size
    · have hd : b.data.toList.drop A7 ≠ [] := fun h => by
        have := congrArg List.length h
        rw [List.length_drop, hlen] at this
        simp at this
        omega
      have e1 : tEnd (b.data.toList.drop A7) = (0, 0, 10) := by unfold tEnd; rw [if_neg hd]
      refine .inl ⟨A7, 10, by decide, ?_, ?_, ?_⟩
      · unfold rEnd; rw [e1, rd_e (by decide)]
      · unfold rEnd; rw [e1, rd_e (by decide)]
      · rw [if_pos (by omega)]
    · have hd : b.data.toList.drop A7 = [] := List.drop_eq_nil_of_le (by omega)
      have e1 : tEnd (b.data.toList.drop A7) = (0, 0, 0) := by unfold tEnd; rw [if_pos hd]
      have e2 : (rEnd b A7 0).2.1 = 0 ∧ (rEnd b A7 0).2.2 = (A7, 0) := by unfold rEnd; rw [e1, rd_k rfl]; exact ⟨rfl, rfl⟩
      obtain ⟨s1, s2⟩ := su_same (hc y A7 hr)
      rw [if_neg (by omega)]
      cases ho : okF 14 x with
      | true =>
        refine .inr (.inl ⟨e2.1, e2.2, rfl, A7, ?_⟩)
        rw [if_pos (by rw [← s1]; exact ho), s2 ho]
      | false =>
        refine .inr (.inr ⟨e2.1, e2.2, rfl, ?_⟩)
        rw [if_neg (by rw [← s1, ho]; simp)]
set_option maxRecDepth 100000 in
set_option maxHeartbeats 2000000 in
theorem decode_any (t b : ByteArray) (hb : b.size ≤ 16777216) (hu : UnwIs t b 0 0) (w : World) (hkd : Kd w) (hpt : Pt w) :
    Calls Tryd.prog 11 #[.string t] w (Dec7 b w) := by
  have HU := Lib.hid hu
  have HPT := Lib.hid hpt
  have HKD := Lib.hid hkd
  have HNR := Lib.hid (new_reader b hb)
  clear hu hpt hkd
  go_enter Tryd.func11, Tryd.ntmps11
  go_wp2_with fail
  refine (HU.out _).mono ?_
  rintro _ w1 ⟨rfl, b1⟩
  go_wp2_with fail
  refine (HNR.out _).mono ?_
  rintro _ w2 ⟨rfl, hw2⟩
  go_wp2_with fail
  have hb1 : Below w.heap.size w w1 := ((Below.refl _ _).alloc (Nat.le_refl _) _).trans (b1.mono (by simp))
  have hz1 : w.heap.size + 1 ≤ w1.heap.size := by have := b1.size; simpa using this
  have hx1 : Obj w1 w.heap.size 29 #[.int .i64 0, .int .i64 0, .int .i64 0, .slice none 0 0, .slice none 0 0] := (Obj.made w _ _).below b1 (by simp)
  have hpr := rdW_pr w1 b hb
  have hbr := rdW_below w1 b
  have hpt3 := (HPT.out.below hb1 (Nat.le_refl _)).below hbr (Nat.le_refl _)
  have hpp := HPT.out.pos
  have HSU := Lib.hid (setup7_any (w1.heap.size + 1) w1.heap.size b 0 _ hpr ⟨hpt3, by omega, by omega⟩)
  have HX1 := Lib.hid (hx1.below hbr hx1.lt)
  have HB1 := Lib.hid (hb1.trans (hbr.mono (by omega)))
  have HZ1 := Lib.hid hz1
  have HRZ : Hid ((rdW w1 b).heap.size = w1.heap.size + 2) := by show _ = _; simp [rdW]
  have HKD3 := Lib.hid ((HKD.out.below hb1 (Nat.le_refl _)).below hbr (Nat.le_refl _))
  have hrw : (w1.alloc (.cells #[.string b, .int .i64 0, .int .i64 0] 82)).alloc (.cells #[.pointer (some ⟨w1.heap.size, 0, none⟩), .int .i64 0] 61) = rdW w1 b := rfl
  obtain ⟨w3, hw3⟩ : ∃ w3, w3 = rdW w1 b := ⟨_, rfl⟩
  rw [hrw, ← hw3]
  rw [← hw3] at HSU HX1 HB1 HRZ HKD3
  clear hb1 hz1 hx1 hpr hbr hpt3 hpp b1 hrw hw3
  refine HSU.out.mono ?_
  rintro _ w4 ⟨I, T, c, c', x, n', rfl, hat, hlo, htl, hcut, hp4, hk4⟩
  have hx4 : Obj w4 w.heap.size 29 #[.int .i64 0, .int .i64 0, .int .i64 0, .slice none 0 0, .slice none 0 0] := HX1.out.same (hk4.block _ HX1.out.lt (by have := HZ1.out; omega) (some_ne (by have := HZ1.out; omega)))
  have HX4 := Lib.hid hx4
  have HAT := Lib.hid hat
  have HTL := Lib.hid htl
  have HCUT := Lib.hid hcut
  have HP4 := Lib.hid hp4
  have HB4 := Lib.hid (kp_low HB1.out hk4 (by have := HZ1.out; omega) (by have := HZ1.out; omega))
  have HZ4 := Lib.hid hk4.size
  have HK4 := Lib.hid hk4
  obtain ⟨st, cl, tr, ini, thr⟩ := x
  obtain ⟨L, hL⟩ : ∃ L, L = ini.length := ⟨_, rfl⟩
  obtain ⟨M, hM⟩ : ∃ M, M = thr.length := ⟨_, rfl⟩
  dsimp only
  rw [← hL, ← hM]
  have HL := Lib.hid hL
  have HM := Lib.hid hM
  have f4 : ∀ j, w4.frozen? ⟨w.heap.size, j, none⟩ = false := hx4.free
  have a0 := hx4.cell 0
  have a1 := hx4.cell 1
  have a2 := hx4.cell 2
  have a3 := hx4.cell 3
  have a4 := hx4.cell 4
  simp at a0 a1 a2 a3 a4
  clear hx4 hat htl hcut hp4 hk4 hL hM
  have HLO := Lib.hid hlo
  have hS := Set1.five w.heap.size w4 (.int .i64 st) (.int .i64 cl) (.int .i64 tr) (.slice I L c) (.slice T M c')
  have HO := Lib.hid (HX4.out.put5 (.int .i64 st) (.int .i64 cl) (.int .i64 tr) (.slice I L c) (.slice T M c'))
  have HP5 := Lib.hid (HP4.out.set hS (by have := HZ1.out; omega) (by have := HZ1.out; omega))
  have HAT5 := Lib.hid (HAT.out.set1 hS (by have := HZ1.out; have := HRZ.out; omega) hlo)
  have HB5 := Lib.hid (HB4.out.trans ⟨hS.os, hS.tape, hS.output, Nat.le_of_eq hS.size.symm, fun i hi => hS.block i (by omega)⟩)
  have HSZ := Lib.hid hS.size
  have HKD5 := Lib.hid (HKD.out.below HB5.out (Nat.le_refl _))
  clear hlo
  obtain ⟨A7, hA7⟩ : ∃ x, x = outAt (pSu b.data.toList) 0 0 := ⟨_, rfl⟩
  obtain ⟨W7, hW7⟩ : ∃ x, x = outWr (pSu b.data.toList) 0 := ⟨_, rfl⟩
  rw [← hA7, ← hW7] at HP5
  have HA7 := Lib.hid hA7
  have HW7 := Lib.hid hW7
  clear hA7 hW7
  go_wp2_with fail
  generalize (((((w4.setCell ⟨w.heap.size, 0, none⟩ (.int .i64 st)).setCell ⟨w.heap.size, 1, none⟩ (.int .i64 cl)).setCell ⟨w.heap.size, 2, none⟩ (.int .i64 tr)).setCell ⟨w.heap.size, 3, none⟩ (.slice I L c)).setCell ⟨w.heap.size, 4, none⟩ (.slice T M c')) = w5 at HO HP5 HAT5 HB5 HSZ HKD5 hS ⊢
  have HEND := Lib.hid (rEnd_any w1.heap.size b A7 W7 w5 HP5.out.rd)
  refine HEND.out.mono ?_
  rintro _ w6 ⟨rfl, r6, k6⟩
  clear a0 a1 a2 a3 a4 f4 HEND
  have hG := HZ1.out
  have hfar : ∀ i, i < w5.heap.size → i ≠ w1.heap.size → w6.heap[i]? = w5.heap[i]? := fun i h1 h2 => k6.block i h1 h2 (by simp)
  have HB6 := Lib.hid (HB5.out.trans ⟨k6.os, k6.tape, k6.output, k6.size, fun i hi => k6.block i (by have := HB5.out.size; omega) (by omega) (by simp)⟩ : Below w.heap.size w w6)
  have HO6 := Lib.hid (HO.out.same (hfar _ HO.out.lt (by omega)))
  have HAT6 := Lib.hid (HAT5.out.same (w' := w6) (fun p h1 => World.cell?_of_block (hfar p.block (by have := HSZ.out; omega) (by have := HRZ.out; omega))) HLO.out)
  have HKD6 := Lib.hid (HKD.out.below HB6.out (Nat.le_refl _))
  have HR6 := Lib.hid r6
  have HS6 := Lib.hid k6.size
  have a0 := HO6.out.cell 0
  have a1 := HO6.out.cell 1
  have a2 := HO6.out.cell 2
  have a3 := HO6.out.cell 3
  have a4 := HO6.out.cell 4
  simp at a0 a1 a2 a3 a4
  have f4 : ∀ j, w6.frozen? ⟨w.heap.size, j, none⟩ = false := HO6.out.free
  have HWAYS := Lib.hid (body_ways b ⟨st, cl, tr, ini, thr⟩ A7 W7 HA7.out HW7.out HCUT.out HP5.out.rd.2.1)
  clear r6 k6 hfar hS
  rcases HWAYS.out with ⟨p, er, he, h1, h2, h3⟩ | ⟨h1, h2, ho, p, h3⟩ | ⟨h1, h2, ho, h3⟩
  · rw [h1]
    rw [h2] at HR6
    have H3 := Lib.hid h3
    have hb1 : (er == 0) = false := by simpa using he
    have hb2 : (er != 0) = true := by simpa using he
    have HWR := Lib.hid (wrong_yes w1.heap.size b p er he w6 HR6.out)
    clear h1 h2 h3 HWAYS he
    go_wp2_with fail
    refine HWR.out.mono ?_
    rintro _ w7 ⟨rfl, nn, rfl⟩
    have HBX := Lib.hid (HB6.out.trans ((drewN_below w6 nn).mono HB6.out.size))
    have HOX : Hid (Obj (w6.drewN nn) w.heap.size 29 #[.int .i64 st, .int .i64 cl, .int .i64 tr, .slice I L c, .slice T M c']) := HO6.out
    have HPB : Hid (p ≤ 16777216) := by have := HR6.out.2; show p ≤ _; omega
    clear a0 a1 a2 a3 a4 f4
    have hz10 := numS_size b.size
    have hpl := Vm.put_len b.size
    have hn1 : (numS b.size).size ≤ 10 := by omega
    have hpb : p ≤ 16777216 := by have := HPB.out; omega
    have HPUT := Lib.hid (put_n b.size (by omega) (w6.drewN nn))
    clear hz10 hpl
    go_wp2_with fail
    refine HPUT.out.mono ?_
    rintro _ w8 ⟨rfl, b8⟩
    have HB8 := Lib.hid (HBX.out.trans (b8.mono HBX.out.size))
    have HO8 := HOX.out.below b8 HOX.out.lt
    have c0 := HO8.cell 0
    have c1 := HO8.cell 1
    have c2 := HO8.cell 2
    have c3 := HO8.cell 3
    have c4 := HO8.cell 4
    simp at c0 c1 c2 c3 c4
    have g4 : ∀ j, w8.frozen? ⟨w.heap.size, j, none⟩ = false := HO8.free
    have HOO := Lib.hid HO8
    have z8 := HO8.lt
    clear b8 HPUT HO8
    go_wp2_with fail
    have hO := HOO.out.put5 (.int .i64 0) (.int .i64 0) (.int .i64 0) (.slice none 0 0) (.slice none 0 0)
    have hS := Set1.five w.heap.size w8 (.int .i64 0) (.int .i64 0) (.int .i64 0) (.slice none 0 0) (.slice none 0 0)
    generalize (((((w8.setCell ⟨w.heap.size, 0, none⟩ (.int .i64 0)).setCell ⟨w.heap.size, 1, none⟩ (.int .i64 0)).setCell ⟨w.heap.size, 2, none⟩ (.int .i64 0)).setCell ⟨w.heap.size, 3, none⟩ (.slice none 0 0)).setCell ⟨w.heap.size, 4, none⟩ (.slice none 0 0)) = W' at hO hS ⊢
    have hB : Below w.heap.size w W' := HB8.out.trans ⟨hS.os, hS.tape, hS.output, Nat.le_of_eq hS.size.symm, fun i hi => hS.block i (by omega)⟩
    have e0 := hO.cell 0
    have e1 := hO.cell 1
    have e2 := hO.cell 2
    have e3 := hO.cell 3
    have e4 := hO.cell 4
    simp at e0 e1 e2 e3 e4
    refine bodyPost_ret (v := .tuple #[su00, .int .i64 ((numS b.size).size + p), .int .i64 er]) (by simp [results, Tryd.results11, go_sem, e0, e1, e2, e3, e4, su00]) rfl ⟨hB, ?_⟩
    rw [H3.out]
    show Ending.returned _ = Ending.returned _
    rw [Int.natCast_add]
  · rw [h1]
    rw [h2] at HR6
    have H3 := Lib.hid h3
    have HCK := Lib.hid (check_any 14 ⟨st, cl, tr, ini, thr⟩ I T c c' _ _ w6 HKD6.out HAT6.out (by have := HSZ.out; have := HS6.out; omega) (by omega))
    rw [ho] at HCK
    dsimp only at HCK
    rw [← HL.out, ← HM.out, show errF true = 0 from rfl] at HCK
    clear h1 h2 h3 HWAYS ho
    go_wp2_with fail
    refine HCK.out.mono ?_
    rintro _ w7 ⟨rfl, b7⟩
    have HR7 := Lib.hid (rd_more HR6.out b7)
    have HWR := Lib.hid (wrong_no w1.heap.size b A7 w7 HR7.out)
    have HO7 := Lib.hid (HO6.out.below b7 HO6.out.lt)
    have HB7 := Lib.hid (HB6.out.trans (b7.mono HB6.out.size))
    have HAT7 := Lib.hid (HAT6.out.below b7 (by have := HSZ.out; have := HS6.out; omega))
    have HZ7 := Lib.hid b7.size
    have c0 := HO7.out.cell 0
    have c1 := HO7.out.cell 1
    have c2 := HO7.out.cell 2
    have c3 := HO7.out.cell 3
    have c4 := HO7.out.cell 4
    simp at c0 c1 c2 c3 c4
    have g4 : ∀ j, w7.frozen? ⟨w.heap.size, j, none⟩ = false := HO7.out.free
    clear a0 a1 a2 a3 a4 f4 b7
    go_wp2_with fail
    refine HWR.out.mono ?_
    rintro _ w8 ⟨rfl, rfl⟩
    go_wp2_with fail
    have hO := HO7.out.put5 (.int .i64 st) (.int .i64 cl) (.int .i64 tr) (.slice I L c) (.slice T M c')
    have hS := Set1.five w.heap.size w7 (.int .i64 st) (.int .i64 cl) (.int .i64 tr) (.slice I L c) (.slice T M c')
    generalize (((((w7.setCell ⟨w.heap.size, 0, none⟩ (.int .i64 st)).setCell ⟨w.heap.size, 1, none⟩ (.int .i64 cl)).setCell ⟨w.heap.size, 2, none⟩ (.int .i64 tr)).setCell ⟨w.heap.size, 3, none⟩ (.slice I L c)).setCell ⟨w.heap.size, 4, none⟩ (.slice T M c')) = W' at hO hS ⊢
    have hB : Below w.heap.size w W' := HB7.out.trans ⟨hS.os, hS.tape, hS.output, Nat.le_of_eq hS.size.symm, fun i hi => hS.block i (by omega)⟩
    have hA := HAT7.out.set1 hS (by have := HRZ.out; omega) HLO.out
    have e0 := hO.cell 0
    have e1 := hO.cell 1
    have e2 := hO.cell 2
    have e3 := hO.cell 3
    have e4 := hO.cell 4
    simp at e0 e1 e2 e3 e4
    refine bodyPost_ret (v := .tuple #[.agg #[.int .i64 st, .int .i64 cl, .int .i64 tr, .slice I L c, .slice T M c'], .int .i64 0, .int .i64 0]) (by simp [results, Tryd.results11, go_sem, e0, e1, e2, e3, e4]) rfl ⟨hB, ?_⟩
    rw [H3.out]
    refine ⟨I, T, c, c', by rw [HL.out, HM.out], ?_, HTL.out⟩
    have z1 := hS.size
    have z2 := HS6.out
    have z3 := HZ7.out
    have z4 := HSZ.out
    have z5 := HRZ.out
    exact ⟨⟨hA.ini.len, fun j hj => by
      obtain ⟨a, e, b1, c⟩ := hA.ini.cell j hj
      exact ⟨a, e, by omega, c⟩⟩, hA.thr.wide (by omega) (by omega), hA.len, hA.st0, hA.st1, hA.cl0, hA.cl1, hA.tr0, hA.tr1⟩
  · rw [h1]
    rw [h2] at HR6
    have H3 := Lib.hid h3
    have HCK := Lib.hid (check_any 14 ⟨st, cl, tr, ini, thr⟩ I T c c' _ _ w6 HKD6.out HAT6.out (by have := HSZ.out; have := HS6.out; omega) (by omega))
    rw [ho] at HCK
    dsimp only at HCK
    rw [← HL.out, ← HM.out, show errF false = 4 from rfl] at HCK
    clear h1 h2 h3 HWAYS ho
    go_wp2_with fail
    refine HCK.out.mono ?_
    rintro _ w7 ⟨rfl, b7⟩
    have HR7 := Lib.hid (rd_more HR6.out b7)
    have HATA := Lib.hid (at_any w1.heap.size b A7 0 w7 HR7.out)
    have HFL := Lib.hid (rFail_any A7 4 w1.heap.size b A7 0 w7 HR7.out)
    have hff : rFail A7 4 A7 0 = (4, A7, 4) := by unfold rFail; rw [if_pos rfl, if_neg (by omega), Int.toNat_natCast]
    rw [hff] at HFL
    have HO7 := Lib.hid (HO6.out.below b7 HO6.out.lt)
    have HB7 := Lib.hid (HB6.out.trans (b7.mono HB6.out.size))
    clear a0 a1 a2 a3 a4 f4 b7 hff
    go_wp2_with fail
    refine HATA.out.mono ?_
    rintro _ w9 ⟨rfl, rfl⟩
    go_wp2_with fail
    refine HFL.out.mono ?_
    rintro _ w10 ⟨rfl, r10, k10⟩
    have HWR := Lib.hid (wrong_yes w1.heap.size b A7 4 (by decide) w10 r10)
    have HO10 := Lib.hid (HO7.out.same (k10.block _ HO7.out.lt (by omega) (by simp)))
    have HB10 := Lib.hid (HB7.out.trans ⟨k10.os, k10.tape, k10.output, k10.size, fun i hi => k10.block i (by have := HB7.out.size; omega) (by omega) (by simp)⟩ : Below w.heap.size w w10)
    have HPB0 : Hid (A7 ≤ 16777216) := by have := r10.2; show A7 ≤ _; omega
    clear r10 k10
    go_wp2_with fail
    refine HWR.out.mono ?_
    rintro _ w11 ⟨rfl, nn, rfl⟩
    have HBX := Lib.hid (HB10.out.trans ((drewN_below w10 nn).mono HB10.out.size))
    have HOX : Hid (Obj (w10.drewN nn) w.heap.size 29 #[.int .i64 st, .int .i64 cl, .int .i64 tr, .slice I L c, .slice T M c']) := HO10.out
    have HPB := HPB0
    have hz10 := numS_size b.size
    have hpl := Vm.put_len b.size
    have hn1 : (numS b.size).size ≤ 10 := by omega
    have hpb : A7 ≤ 16777216 := by have := HPB.out; omega
    have HPUT := Lib.hid (put_n b.size (by omega) (w10.drewN nn))
    clear hz10 hpl
    go_wp2_with fail
    refine HPUT.out.mono ?_
    rintro _ w8 ⟨rfl, b8⟩
    have HB8 := Lib.hid (HBX.out.trans (b8.mono HBX.out.size))
    have HO8 := HOX.out.below b8 HOX.out.lt
    have c0 := HO8.cell 0
    have c1 := HO8.cell 1
    have c2 := HO8.cell 2
    have c3 := HO8.cell 3
    have c4 := HO8.cell 4
    simp at c0 c1 c2 c3 c4
    have g4 : ∀ j, w8.frozen? ⟨w.heap.size, j, none⟩ = false := HO8.free
    have HOO := Lib.hid HO8
    have z8 := HO8.lt
    clear b8 HPUT HO8
    go_wp2_with fail
    have hO := HOO.out.put5 (.int .i64 0) (.int .i64 0) (.int .i64 0) (.slice none 0 0) (.slice none 0 0)
    have hS := Set1.five w.heap.size w8 (.int .i64 0) (.int .i64 0) (.int .i64 0) (.slice none 0 0) (.slice none 0 0)
    generalize (((((w8.setCell ⟨w.heap.size, 0, none⟩ (.int .i64 0)).setCell ⟨w.heap.size, 1, none⟩ (.int .i64 0)).setCell ⟨w.heap.size, 2, none⟩ (.int .i64 0)).setCell ⟨w.heap.size, 3, none⟩ (.slice none 0 0)).setCell ⟨w.heap.size, 4, none⟩ (.slice none 0 0)) = W' at hO hS ⊢
    have hB : Below w.heap.size w W' := HB8.out.trans ⟨hS.os, hS.tape, hS.output, Nat.le_of_eq hS.size.symm, fun i hi => hS.block i (by omega)⟩
    have e0 := hO.cell 0
    have e1 := hO.cell 1
    have e2 := hO.cell 2
    have e3 := hO.cell 3
    have e4 := hO.cell 4
    simp at e0 e1 e2 e3 e4
    refine bodyPost_ret (v := .tuple #[su00, .int .i64 ((numS b.size).size + A7), .int .i64 4]) (by simp [results, Tryd.results11, go_sem, e0, e1, e2, e3, e4, su00]) rfl ⟨hB, ?_⟩
    rw [H3.out]
    show Ending.returned _ = Ending.returned _
    rw [Int.natCast_add]
end Go.Proofs.YtpgkhodofhnpnaaDoor
