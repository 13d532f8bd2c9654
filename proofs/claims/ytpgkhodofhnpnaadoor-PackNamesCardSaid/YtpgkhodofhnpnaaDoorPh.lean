/-
  LAYER 7's READER: what a statement is read as (stmt), letter by letter, over what a block is read as. Conditions: as XPb's; the texts of what stands behind each Kind lie as their initialiser lays them.
-/
import Derived.Test.YtpgkhodofhnpnaaDoorPg
namespace Go.Proofs.YtpgkhodofhnpnaaDoor
set_option maxRecDepth 100000
open Go.RowKit
set_option linter.unusedVariables false
/-- What a statement is read as. -/
def St7 (q g : Nat) (s : ByteArray) (n d : Nat) (r : Res St) (at_ : Nat) (wr : Int) (w : World) (e : Ending) (w' : World) : Prop :=
  ∃ (u : Raw) (x : St) (n' : Nat), e = .returned u.v ∧ SAt w' w.heap.size w'.heap.size (d + 9) u x ∧ n ≤ n' ∧ n' ≤ n + 2 * Bnd d ∧ (wr = 0 → ∀ y p, r = .ok (y, p) → CutS (d + 8) n n' x y) ∧ PR w' q g s (outAt r at_ wr) (outWr r wr) n' ∧ Kp g (some q) w w'
/-- What a block is read as. -/
def Bl7 (q g : Nat) (s : ByteArray) (n d : Nat) (r : Res (List St)) (at_ : Nat) (wr : Int) (w : World) (e : Ending) (w' : World) : Prop :=
  ∃ (A : Option Addr) (c : Nat) (x : List St) (n' : Nat), e = .returned (.slice A x.length c) ∧ SKids w' w.heap.size w'.heap.size (d + 8) A x ∧ x.length ≤ 41 ∧ n ≤ n' ∧ n' ≤ n + Bnd d ∧ (wr = 0 → ∀ y p, r = .ok (y, p) → Cut (d + 8) n n' x y) ∧ PR w' q g s (outAt r at_ wr) (outWr r wr) n' ∧ Kp g (some q) w w'
def stB (w : World) : World := w.alloc (.cells #[.int .u8 0, .int .i64 0, .int .u8 0, .int .i64 0, .slice none 0 0, .int .u8 0, .int .i64 0, .slice none 0 0, .slice none 0 0, .slice none 0 0] 33)
theorem stB_below (w : World) : Below w.heap.size w (stB w) := (Below.refl _ _).alloc (Nat.le_refl _) _
def stV (w : World) (v : Nat) : World := w.alloc (.cells #[.int .u8 v, .int .i64 0, .int .u8 0, .int .i64 0, .slice none 0 0, .int .u8 0, .int .i64 0, .slice none 0 0, .slice none 0 0, .slice none 0 0] 33)
theorem sat0 (w : World) (lo hi d v : Nat) (hv : v < 256) : SAt w lo hi (d + 2) (raw0 v) (st0 v) :=
  ⟨⟨rfl, rfl, rfl, rfl⟩, ⟨hv, by omega, by omega, by simp, by simp⟩, leaf7 w lo hi d 0 0 (by omega) (by omega) (by omega), leaf7 w lo hi d 0 0 (by omega) (by omega) (by omega), fun j hj => absurd hj (by simp), fun j hj => absurd hj (by simp)⟩
theorem LS.start {w w1 : World} {q g : Nat} {s : ByteArray} {a n v d : Nat} {W : Int} {txt : ByteArray} (hp : PR w1 q g s a W n) (k : Kp g none (stB w) w1) (hg : g < w.heap.size ∧ q < w.heap.size) (hv : v < 256) :
    LS w q g s w1.heap.size (d + 2) txt 0 a W n (raw0 v) (st0 v) ((stV w1 v).iter txt 0) := by
  have h1 : w.heap.size + 1 ≤ w1.heap.size := by have := k.size; simpa [stB] using this
  have b1 : Below w1.heap.size w1 ((stV w1 v).iter txt 0) := ((Below.refl _ _).alloc (Nat.le_refl _) _).alloc (by simp) _
  have hR : Obj (stB w) w.heap.size 33 #[.int .u8 0, .int .i64 0, .int .u8 0, .int .i64 0, .slice none 0 0, .int .u8 0, .int .i64 0, .slice none 0 0, .slice none 0 0, .slice none 0 0] := Obj.made w _ _
  have hz : (stV w1 v).heap.size = w1.heap.size + 1 := by simp [stV]
  refine ⟨hp.below b1, (Kp.of_below (stB_below w) k).weak.trans2 (kp_below b1), (hR.kp k (by omega) (by simp)).same (b1.block _ (by omega)), (Obj.made w1 _ _).more _, ?_, sat0 _ _ _ _ _ hv, by omega, hg, ?_⟩
  · have := World.iter_heap (stV w1 v) txt 0
    rw [hz] at this
    exact this
  · show w1.heap.size + 2 ≤ ((stV w1 v).alloc _).heap.size
    simp [hz]
theorem Obj.put10 {w : World} {R : Nat} {t : TypeId} {z0 z1 z2 z3 z4 z5 z6 z7 z8 z9 : Value} (h : Obj w R t #[z0, z1, z2, z3, z4, z5, z6, z7, z8, z9]) (x0 x1 x2 x3 x4 x5 x6 x7 x8 x9 : Value) :
    Obj ((((((((((w.setCell ⟨R, 0, none⟩ x0).setCell ⟨R, 1, none⟩ x1).setCell ⟨R, 2, none⟩ x2).setCell ⟨R, 3, none⟩ x3).setCell ⟨R, 4, none⟩ x4).setCell ⟨R, 5, none⟩ x5).setCell ⟨R, 6, none⟩ x6).setCell ⟨R, 7, none⟩ x7).setCell ⟨R, 8, none⟩ x8).setCell ⟨R, 9, none⟩ x9) R t #[x0, x1, x2, x3, x4, x5, x6, x7, x8, x9] := by
  have h' := (((((((((h.store 0 x0).store 1 x1).store 2 x2).store 3 x3).store 4 x4).store 5 x5).store 6 x6).store 7 x7).store 8 x8).store 9 x9
  simp only [List.setIfInBounds_toArray, List.set_cons_succ, List.set_cons_zero] at h'
  exact h'
theorem Set1.ten (R : Nat) (w : World) (x0 x1 x2 x3 x4 x5 x6 x7 x8 x9 : Value) :
    Set1 R w ((((((((((w.setCell ⟨R, 0, none⟩ x0).setCell ⟨R, 1, none⟩ x1).setCell ⟨R, 2, none⟩ x2).setCell ⟨R, 3, none⟩ x3).setCell ⟨R, 4, none⟩ x4).setCell ⟨R, 5, none⟩ x5).setCell ⟨R, 6, none⟩ x6).setCell ⟨R, 7, none⟩ x7).setCell ⟨R, 8, none⟩ x8).setCell ⟨R, 9, none⟩ x9) :=
  (((((((((Set1.set R 0 w _).trans (Set1.set R 1 _ _)).trans (Set1.set R 2 _ _)).trans (Set1.set R 3 _ _)).trans (Set1.set R 4 _ _)).trans (Set1.set R 5 _ _)).trans (Set1.set R 6 _ _)).trans (Set1.set R 7 _ _)).trans (Set1.set R 8 _ _)).trans (Set1.set R 9 _ _)
theorem fin_st {s : List UInt8} {blk : Nat → Res (List St)} {at_ v A1 : Nat} {W0 W1 : Int} (ha : at_ ≤ s.length) (hv : v = outN (pNum s 1 8 at_) W0) (hA : A1 = outAt (pNum s 1 8 at_) at_ W0) (hW : W1 = outWr (pNum s 1 8 at_) W0) :
    outAt (pSt s blk at_) at_ W0 = outAt (pLets s blk (letters v) (st0 v) A1) A1 W1 ∧ outWr (pSt s blk at_) W0 = outWr (pLets s blk (letters v) (st0 v) A1) W1 ∧ (W0 = 0 → ∀ y p, pSt s blk at_ = .ok (y, p) → W1 = 0 ∧ pLets s blk (letters v) (st0 v) A1 = .ok (y, p)) := by
  rw [pSt_lets]
  by_cases h0 : W0 = 0
  · subst h0
    have hs := (good_num (s := s) (lo := 1) (hi := 8) ha).sane
    match hr : pNum s 1 8 at_, hs with
    | .error (p, e), hs =>
      have he := hs p e rfl
      rw [hr] at hv hA hW
      have e1 : v = 0 := hv
      have e2 : A1 = p := hA
      have e3 : W1 = e := hW
      subst e1 e2 e3
      exact ⟨(outAt_w he).symm, (outWr_w he).symm, fun _ y p hc => by cases hc⟩
    | .ok (k, p), _ =>
      rw [hr] at hv hA hW
      have e1 : v = k := hv
      have e2 : A1 = p := hA
      have e3 : W1 = 0 := hW
      subst e1 e2 e3
      exact ⟨rfl, rfl, fun _ y p hc => ⟨rfl, hc⟩⟩
  · rw [outAt_w h0] at hA
    rw [outWr_w h0] at hW
    subst hA hW
    rw [outAt_w h0, outWr_w h0, outAt_w h0, outWr_w h0]
    exact ⟨rfl, rfl, fun h => absurd h h0⟩
set_option maxRecDepth 100000 in
set_option maxHeartbeats 2000000 in
theorem stmt7_any (d : Nat) (q g : Nat) (s : ByteArray) (deep : Nat) (hdeep : deep ≤ 6)
    (HB : ∀ (at_ : Nat) (wr : Int) (n : Nat) (w : World), PR w q g s at_ wr n → Tab w q g → n + Bnd d ≤ 9000000000000000000 → Calls Tryd.prog 53 #[.pointer (some ⟨q, 0, none⟩), .int .i64 ((deep : Int) + 1)] w (Bl7 q g s n d (pBl s.data.toList d at_) at_ wr w))
    (at_ : Nat) (W0 : Int) (n : Nat) (w : World) (h : PR w q g s at_ W0 n) (ht : Tab w q g) (hn : n + 2 * Bnd d ≤ 9000000000000000000) :
    Calls Tryd.prog 62 #[.pointer (some ⟨q, 0, none⟩), .int .i64 deep] w (St7 q g s n d (pSt s.data.toList (pBl s.data.toList d) at_) at_ W0 w) := by
  have b0 := stB_below w
  have HN : Hid (Calls Tryd.prog 36 #[.pointer (some ⟨q, 0, none⟩), .int .i64 1, .int .i64 8] (stB w) (Num7 q g s n (pNum s.data.toList 1 8 at_) at_ W0 (stB w))) := num7_any q g s at_ W0 n 1 8 (by omega) (by omega) _ (h.below b0)
  unfold Num7 at HN
  have hv8 := num_le (s := s.data.toList) (lo := 1) (hi := 8) (at_ := at_) (wr := W0)
  obtain ⟨v, hv⟩ : ∃ v, v = outN (pNum s.data.toList 1 8 at_) W0 := ⟨_, rfl⟩
  rw [← hv] at HN hv8
  have v0 : (0 : Int) ≤ v := by omega
  have v9 : (v : Int) ≤ 8 := by omega
  have HV := Lib.hid hv
  obtain ⟨A1, hA1⟩ : ∃ x, x = outAt (pNum s.data.toList 1 8 at_) at_ W0 := ⟨_, rfl⟩
  obtain ⟨W1, hW1⟩ : ∃ x, x = outWr (pNum s.data.toList 1 8 at_) W0 := ⟨_, rfl⟩
  rw [← hA1, ← hW1] at HN
  have HA1 := Lib.hid hA1
  have HW1 := Lib.hid hW1
  have HH := Lib.hid h
  have HT := Lib.hid ht
  have HBB := Lib.hid HB
  have HG : Hid (g < w.heap.size ∧ q < w.heap.size) := ⟨h.lt.2, h.lt.1⟩
  have HSI := Lib.hid (SI.start s.data.toList (pBl s.data.toList d) (d + 8) n (Bnd d) v A1 W1)
  obtain ⟨L, hL⟩ : ∃ L, L = letters v := ⟨_, rfl⟩
  rw [← hL] at HSI
  have HL := Lib.hid hL
  clear hv hA1 hW1 h b0 ht HB hL
  unfold stB at HN
  go_enter Tryd.func62, Tryd.ntmps62
  go_wp2_with fail
  refine HN.out.mono ?_
  rintro _ w1 ⟨rfl, p1, k1⟩
  have HLS := Lib.hid (LS.start (txt := bs L) (v := v) (d := d + 7) p1 k1 HG.out (by omega))
  have htab := (HT.out.kp (w' := stV w1 v) ((Kp.of_below (stB_below w) k1).weak.trans2 (kp_below ((Below.refl _ _).alloc (Nat.le_refl _) _)))).pt v (by omega)
  rw [← HL.out] at htab
  unfold stV at htab
  have P1 := Lib.hid p1
  have z1 := p1.lt
  clear p1 k1
  go_wp2_with fail
  go_loopw [] (fun wr => ∃ (i a : Nat) (W : Int) (m : Nat) (r : Raw) (x : St), i ≤ L.length ∧ Hid (LS w q g s w1.heap.size (d + 9) (bs L) i a W m r x wr) ∧ Hid (SI s.data.toList (pBl s.data.toList d) (d + 8) n (Bnd d) L v A1 W1 i a W m x)) (fun wr => L.length - wr.iterPos (w1.heap.size + 1))
  case atStart => exact ⟨0, A1, W1, n, raw0 v, st0 v, by omega, HLS.out, HSI.out⟩
  case round =>
    obtain ⟨i, a, W, m, r, x, hi, IS, IV⟩ := hrel
    by_cases hlt : i < L.length
    · obtain ⟨w5, hw5⟩ : ∃ w5, w5 = wr.iterAt (w1.heap.size + 1) (bs L) (i + 1) := ⟨_, rfl⟩
      have hls5 := IS.out.next
      rw [← hw5] at hls5
      have IS5 := Lib.hid hls5
      obtain ⟨k, t, xa, xb, y, e⟩ := x
      have hc0 := letters_one v L[i] (by rw [← HL.out]; exact List.getElem_mem hlt)
      have hlen := hlt
      have HP5 := Lib.hid hls5.pr
      have HT5 := Lib.hid (HT.out.kp hls5.kp)
      have HM : Hid (m + nB (L.drop i) * Bnd d ≤ n + 2 * Bnd d) := IV.out.hi
      have HND : Hid L.Nodup := by show L.Nodup; rw [HL.out]; exact letters_nodup v
      have HGB : Hid (∀ p, p ≤ s.data.toList.length → GoodP s.data.toList p (fun _ _ => True) (pBl s.data.toList d p)) := fun p hp => good_mono (good_bl d p hp) fun _ _ _ => trivial
      have HSZ := Lib.hid hls5.sz
      clear hls5
      rcases hc0 with hc | hc | hc | hc | hc
      · have hch : (((bs L)[i]'(by rw [bs_size]; omega)).toNat : Int) = 84 := by
          have : (bs L)[i]'(by rw [bs_size]; omega) = L[i] := rfl
          rw [this, hc]
          rfl
        have hnx : ∀ ty, (Instr.next (.pointer (some ⟨w1.heap.size + 1, 0, none⟩)) true ty).run Tryd.prog wr = .ok (.tuple #[.bool true, .int .i64 i, .int .i32 84]) w5 := fun ty => by
          rw [hw5, Lib.run_next_ascii_at wr (w1.heap.size + 1) (bs L) i ty IS.out.it (by rw [bs_size]; omega) (by omega), hch]
        have HC := Lib.hid hc
        have hn8 := num_le (s := s.data.toList) (lo := 0) (hi := 7) (at_ := a) (wr := W)
        have HI : Hid (Calls Tryd.prog 36 #[.pointer (some ⟨q, 0, none⟩), .int .i64 0, .int .i64 7] w5 (Num7 q g s m (pNum s.data.toList 0 7 a) a W w5)) := num7_any q g s a W m 0 7 (by omega) (by omega) w5 HP5.out
        unfold Num7 at HI
        obtain ⟨t', hy⟩ : ∃ t', t' = outN (pNum s.data.toList 0 7 a) W := ⟨_, rfl⟩
        rw [← hy] at HI hn8
        have HY := Lib.hid hy
        have y0 : (0 : Int) ≤ t' := by omega
        have y8 : (t' : Int) ≤ 7 := by omega
        clear hy
        clear hw5 hc hch
        go_wp2_with fail
        refine HI.out.mono ?_
        rintro _ w6 ⟨rfl, hp6, hk6'⟩
        have hk6 : Kp g (some q) w5 w6 := hk6'.weak
        clear hk6'
        have HX := Lib.hid ((IS5.out.call hp6 hk6).setT t' (by omega) (by omega))
        have HSN := Lib.hid (by have := IV.out.stepT HGB.out P1.out.rd.2.1 hlt HC.out; rw [← HY.out] at this; exact this)
        have hbx := (IS5.out.call hp6 hk6).box
        have b1 := hbx.cell 1
        simp [Raw.cells] at b1
        have ff : ∀ j, w6.frozen? ⟨w1.heap.size, j, none⟩ = false := hbx.free
        clear hbx hnx hp6 hk6
        go_wp2_with fail
        go_roundw
        case rel => exact ⟨i + 1, _, _, _, _, _, by omega, HX.out, HSN.out⟩
        case measure =>
          rw [iterPos_of IS.out.it, iterPos_of HX.out.it]
          omega
      · have hch : (((bs L)[i]'(by rw [bs_size]; omega)).toNat : Int) = 65 := by
          have : (bs L)[i]'(by rw [bs_size]; omega) = L[i] := rfl
          rw [this, hc]
          rfl
        have hnx : ∀ ty, (Instr.next (.pointer (some ⟨w1.heap.size + 1, 0, none⟩)) true ty).run Tryd.prog wr = .ok (.tuple #[.bool true, .int .i64 i, .int .i32 65]) w5 := fun ty => by
          rw [hw5, Lib.run_next_ascii_at wr (w1.heap.size + 1) (bs L) i ty IS.out.it (by rw [bs_size]; omega) (by omega), hch]
        have HC := Lib.hid hc
        have HI : Hid (Calls Tryd.prog 67 #[.pointer (some ⟨q, 0, none⟩), .int .i64 1] w5 (Ex7 q g s m 7 (pEx s.data.toList 6 a) a W w5)) := expr7_any 6 q g s a W m 1 w5 (by omega) HP5.out
        clear hw5 hc hch
        go_wp2_with fail
        refine HI.out.mono ?_
        rintro _ w6 ⟨o6, m6, A6, l6, c6, x6, rfl, hA6, hX6, hp6, hk6'⟩
        have hk6 : Kp g (some q) w5 w6 := hk6'.weak
        have hA7 := Lib.hid ((hA6.wide HSZ.out (Nat.le_refl _) 7).more 7 (d + 8) (by omega))
        have HX6 := Lib.hid hX6
        clear hk6' hA6 hX6
        have HX := Lib.hid ((IS5.out.call hp6 hk6).setA hA7.out)
        have HSN := Lib.hid (IV.out.stepA HGB.out P1.out.rd.2.1 hlt HC.out HX6.out)
        have hbx := (IS5.out.call hp6 hk6).box
        have b2 := hbx.cell 2
        have b3 := hbx.cell 3
        have b4 := hbx.cell 4
        simp [Raw.cells] at b2 b3 b4
        have ff : ∀ j, w6.frozen? ⟨w1.heap.size, j, none⟩ = false := hbx.free
        clear hbx hnx hp6 hk6
        go_wp2_with fail
        go_roundw
        case rel => exact ⟨i + 1, _, _, _, _, _, by omega, HX.out, HSN.out⟩
        case measure =>
          rw [iterPos_of IS.out.it, iterPos_of HX.out.it]
          omega
      · have hch : (((bs L)[i]'(by rw [bs_size]; omega)).toNat : Int) = 66 := by
          have : (bs L)[i]'(by rw [bs_size]; omega) = L[i] := rfl
          rw [this, hc]
          rfl
        have hnx : ∀ ty, (Instr.next (.pointer (some ⟨w1.heap.size + 1, 0, none⟩)) true ty).run Tryd.prog wr = .ok (.tuple #[.bool true, .int .i64 i, .int .i32 66]) w5 := fun ty => by
          rw [hw5, Lib.run_next_ascii_at wr (w1.heap.size + 1) (bs L) i ty IS.out.it (by rw [bs_size]; omega) (by omega), hch]
        have HC := Lib.hid hc
        have HI : Hid (Calls Tryd.prog 67 #[.pointer (some ⟨q, 0, none⟩), .int .i64 1] w5 (Ex7 q g s m 7 (pEx s.data.toList 6 a) a W w5)) := expr7_any 6 q g s a W m 1 w5 (by omega) HP5.out
        clear hw5 hc hch
        go_wp2_with fail
        refine HI.out.mono ?_
        rintro _ w6 ⟨o6, m6, A6, l6, c6, x6, rfl, hA6, hX6, hp6, hk6'⟩
        have hk6 : Kp g (some q) w5 w6 := hk6'.weak
        have hA7 := Lib.hid ((hA6.wide HSZ.out (Nat.le_refl _) 7).more 7 (d + 8) (by omega))
        have HX6 := Lib.hid hX6
        clear hk6' hA6 hX6
        have HX := Lib.hid ((IS5.out.call hp6 hk6).setB hA7.out)
        have HSN := Lib.hid (IV.out.stepB HGB.out P1.out.rd.2.1 hlt HC.out HX6.out)
        have hbx := (IS5.out.call hp6 hk6).box
        have b5 := hbx.cell 5
        have b6 := hbx.cell 6
        have b7 := hbx.cell 7
        simp [Raw.cells] at b5 b6 b7
        have ff : ∀ j, w6.frozen? ⟨w1.heap.size, j, none⟩ = false := hbx.free
        clear hbx hnx hp6 hk6
        go_wp2_with fail
        go_roundw
        case rel => exact ⟨i + 1, _, _, _, _, _, by omega, HX.out, HSN.out⟩
        case measure =>
          rw [iterPos_of IS.out.it, iterPos_of HX.out.it]
          omega
      · have hch : (((bs L)[i]'(by rw [bs_size]; omega)).toNat : Int) = 98 := by
          have : (bs L)[i]'(by rw [bs_size]; omega) = L[i] := rfl
          rw [this, hc]
          rfl
        have hnx : ∀ ty, (Instr.next (.pointer (some ⟨w1.heap.size + 1, 0, none⟩)) true ty).run Tryd.prog wr = .ok (.tuple #[.bool true, .int .i64 i, .int .i32 98]) w5 := fun ty => by
          rw [hw5, Lib.run_next_ascii_at wr (w1.heap.size + 1) (bs L) i ty IS.out.it (by rw [bs_size]; omega) (by omega), hch]
        have HC := Lib.hid hc
        have hB1 : m + Bnd d ≤ 9000000000000000000 := by
          have h1 := HM.out
          rw [List.drop_eq_getElem_cons hlt, nB_more (by rw [hc]; decide), Nat.add_mul, Nat.one_mul] at h1
          omega
        have HI := Lib.hid (HBB.out a W m w5 HP5.out HT5.out hB1)
        have i5 : (deep : Int) ≤ 6 := by omega
        have i6 : (0 : Int) ≤ deep := by omega
        clear hw5 hc hch
        go_wp2_with fail
        refine HI.out.mono ?_
        rintro _ w6 ⟨A6, c6, x6, m6, rfl, hA6, hl6, hm6, hm7, hX6, hp6, hk6⟩
        have hA7 := Lib.hid (hA6.wide HSZ.out (Nat.le_refl _))
        have HX6 := Lib.hid hX6
        have HM6 := Lib.hid (And.intro hm6 hm7)
        clear hA6 hX6 hm6 hm7
        have HX := Lib.hid ((IS5.out.call hp6 hk6).setY (c := c6) hA7.out (by omega))
        have HSN := Lib.hid (IV.out.stepY HGB.out P1.out.rd.2.1 hlt HND.out HC.out HM6.out.1 HM6.out.2 HX6.out)
        have hbx := (IS5.out.call hp6 hk6).box
        have b8 := hbx.cell 8
        simp [Raw.cells] at b8
        have ff : ∀ j, w6.frozen? ⟨w1.heap.size, j, none⟩ = false := hbx.free
        clear hbx hnx hp6 hk6
        go_wp2_with fail
        go_roundw
        case rel => exact ⟨i + 1, _, _, _, _, _, by omega, HX.out, HSN.out⟩
        case measure =>
          rw [iterPos_of IS.out.it, iterPos_of HX.out.it]
          omega
      · have hch : (((bs L)[i]'(by rw [bs_size]; omega)).toNat : Int) = 101 := by
          have : (bs L)[i]'(by rw [bs_size]; omega) = L[i] := rfl
          rw [this, hc]
          rfl
        have hnx : ∀ ty, (Instr.next (.pointer (some ⟨w1.heap.size + 1, 0, none⟩)) true ty).run Tryd.prog wr = .ok (.tuple #[.bool true, .int .i64 i, .int .i32 101]) w5 := fun ty => by
          rw [hw5, Lib.run_next_ascii_at wr (w1.heap.size + 1) (bs L) i ty IS.out.it (by rw [bs_size]; omega) (by omega), hch]
        have HC := Lib.hid hc
        have hB1 : m + Bnd d ≤ 9000000000000000000 := by
          have h1 := HM.out
          rw [List.drop_eq_getElem_cons hlt, nB_more (by rw [hc]; decide), Nat.add_mul, Nat.one_mul] at h1
          omega
        have HI := Lib.hid (HBB.out a W m w5 HP5.out HT5.out hB1)
        have i5 : (deep : Int) ≤ 6 := by omega
        have i6 : (0 : Int) ≤ deep := by omega
        clear hw5 hc hch
        go_wp2_with fail
        refine HI.out.mono ?_
        rintro _ w6 ⟨A6, c6, x6, m6, rfl, hA6, hl6, hm6, hm7, hX6, hp6, hk6⟩
        have hA7 := Lib.hid (hA6.wide HSZ.out (Nat.le_refl _))
        have HX6 := Lib.hid hX6
        have HM6 := Lib.hid (And.intro hm6 hm7)
        clear hA6 hX6 hm6 hm7
        have HX := Lib.hid ((IS5.out.call hp6 hk6).setE (c := c6) hA7.out (by omega))
        have HSN := Lib.hid (IV.out.stepE HGB.out P1.out.rd.2.1 hlt HND.out HC.out HM6.out.1 HM6.out.2 HX6.out)
        have hbx := (IS5.out.call hp6 hk6).box
        have b9 := hbx.cell 9
        simp [Raw.cells] at b9
        have ff : ∀ j, w6.frozen? ⟨w1.heap.size, j, none⟩ = false := hbx.free
        clear hbx hnx hp6 hk6
        go_wp2_with fail
        go_roundw
        case rel => exact ⟨i + 1, _, _, _, _, _, by omega, HX.out, HSN.out⟩
        case measure =>
          rw [iterPos_of IS.out.it, iterPos_of HX.out.it]
          omega
    · have hnx : ∀ ty, (Instr.next (.pointer (some ⟨w1.heap.size + 1, 0, none⟩)) true ty).run Tryd.prog wr = .ok (.tuple #[.bool false]) wr := fun ty => Lib.run_next_end_at wr (w1.heap.size + 1) (bs L) i ty IS.out.it (by rw [bs_size]; omega)
      obtain rfl : i = L.length := by omega
      have hbx := IS.out.box
      have hrs := IS.out.res
      obtain ⟨rk, rt, rao, ran, raA, ral, rac, rbo, rbn, rbA, rbl, rbc, ryA, ryl, ryc, reA, rel, r9c⟩ := r
      have hlt := IS.out.lt
      have b0 := hbx.cell 0
      have a0 := hrs.cell 0
      have b1 := hbx.cell 1
      have a1 := hrs.cell 1
      have b2 := hbx.cell 2
      have a2 := hrs.cell 2
      have b3 := hbx.cell 3
      have a3 := hrs.cell 3
      have b4 := hbx.cell 4
      have a4 := hrs.cell 4
      have b5 := hbx.cell 5
      have a5 := hrs.cell 5
      have b6 := hbx.cell 6
      have a6 := hrs.cell 6
      have b7 := hbx.cell 7
      have a7 := hrs.cell 7
      have b8 := hbx.cell 8
      have a8 := hrs.cell 8
      have b9 := hbx.cell 9
      have a9 := hrs.cell 9
      simp [Raw.cells] at b0 a0 b1 a1 b2 a2 b3 a3 b4 a4 b5 a5 b6 a6 b7 a7 b8 a8 b9 a9
      have fr : ∀ j, wr.frozen? ⟨w.heap.size, j, none⟩ = false := hrs.free
      clear hbx hrs
      go_wp2_with fail
      have hO := IS.out.res.put10 (.int .u8 rk) (.int .i64 rt) (.int .u8 rao) (.int .i64 ran) (.slice raA ral rac) (.int .u8 rbo) (.int .i64 rbn) (.slice rbA rbl rbc) (.slice ryA ryl ryc) (.slice reA rel r9c)
      have hS := Set1.ten w.heap.size wr (.int .u8 rk) (.int .i64 rt) (.int .u8 rao) (.int .i64 ran) (.slice raA ral rac) (.int .u8 rbo) (.int .i64 rbn) (.slice rbA rbl rbc) (.slice ryA ryl ryc) (.slice reA rel r9c)
      generalize ((((((((((wr.setCell ⟨w.heap.size, 0, none⟩ (.int .u8 rk)).setCell ⟨w.heap.size, 1, none⟩ (.int .i64 rt)).setCell ⟨w.heap.size, 2, none⟩ (.int .u8 rao)).setCell ⟨w.heap.size, 3, none⟩ (.int .i64 ran)).setCell ⟨w.heap.size, 4, none⟩ (.slice raA ral rac)).setCell ⟨w.heap.size, 5, none⟩ (.int .u8 rbo)).setCell ⟨w.heap.size, 6, none⟩ (.int .i64 rbn)).setCell ⟨w.heap.size, 7, none⟩ (.slice rbA rbl rbc)).setCell ⟨w.heap.size, 8, none⟩ (.slice ryA ryl ryc)).setCell ⟨w.heap.size, 9, none⟩ (.slice reA rel r9c)) = W' at hO hS ⊢
      have hG := HG.out
      have hsz := IS.out.sz
      have hP := IS.out.pr.set hS (by omega) (by omega)
      have hK := hS.kp IS.out.kp (Nat.le_refl _)
      have hat : SAt W' w.heap.size W'.heap.size (d + 9) ⟨rk, rt, rao, ran, raA, ral, rac, rbo, rbn, rbA, rbl, rbc, ryA, ryl, ryc, reA, rel, r9c⟩ x := (IS.out.at_.mem (fun b hb _ => hS.block b (by omega)) (by rw [hS.size]; exact Nat.le_refl _)).wide (by omega) (Nat.le_refl _) _
      have hF := fin_st (s := s.data.toList) (blk := pBl s.data.toList d) HH.out.rd.2.1 HV.out HA1.out HW1.out
      have hIa := IV.out.a
      have hIw := IV.out.w
      have hIl := IV.out.lo
      have hIh := IV.out.hi
      have hIv := IV.out.val
      rw [List.take_length] at hIa hIw hIv
      rw [List.drop_length] at hIh
      rw [← HL.out] at hF
      rw [hIa, hIw, ← hF.1, ← hF.2.1] at hP
      have e0 := hO.cell 0
      have e1 := hO.cell 1
      have e2 := hO.cell 2
      have e3 := hO.cell 3
      have e4 := hO.cell 4
      have e5 := hO.cell 5
      have e6 := hO.cell 6
      have e7 := hO.cell 7
      have e8 := hO.cell 8
      have e9 := hO.cell 9
      simp at e0 e1 e2 e3 e4 e5 e6 e7 e8 e9
      exact bodyPost_ret (v := .agg #[.int .u8 rk, .int .i64 rt, .int .u8 rao, .int .i64 ran, .slice raA ral rac, .int .u8 rbo, .int .i64 rbn, .slice rbA rbl rbc, .slice ryA ryl ryc, .slice reA rel r9c]) (by simp [results, Tryd.results62, go_sem, e0, e1, e2, e3, e4, e5, e6, e7, e8, e9]) rfl ⟨_, x, m, rfl, hat, hIl, by simpa [nB] using hIh, fun h0 y p hy => by obtain ⟨h1, h2⟩ := hF.2.2 h0 y p hy; exact (hIv h1 y p h2).1, hP, hK⟩
end Go.Proofs.YtpgkhodofhnpnaaDoor
