/-
  LAYER 7's READER: what a block is read as (block): statement by statement, of which no more are kept than may be, and one. Conditions: as XPh's.
-/
import Derived.Test.YtpgkhodofhnpnaaDoorPi
namespace Go.Proofs.YtpgkhodofhnpnaaDoor
set_option maxRecDepth 100000
open Go.RowKit
set_option linter.unusedVariables false
theorem PR.count {w : World} {q g : Nat} {s : ByteArray} {a : Nat} {wr : Int} {n : Nat} (h : PR w q g s a wr n) (m : Nat) : PR (w.setCell ⟨q, 1, none⟩ (.int .i64 m)) q g s a wr m ∧ Kp g (some q) w (w.setCell ⟨q, 1, none⟩ (.int .i64 m)) := by
  have hne := h.ne
  have k := Set1.set q 1 w (.int .i64 m)
  exact ⟨⟨h.obj.store 1 _, h.rd.1.same (k.block g (fun e => hne e.symm)), h.rd.2⟩, ⟨k.os, k.tape, k.output, Nat.le_of_eq k.size.symm, fun i _ _ ho => k.block i (fun e => ho (by rw [e]))⟩⟩
/-- How things are behind k statements of a block. -/
structure BS (w : World) (q g : Nat) (s : ByteArray) (d n : Nat) (f : Nat → Res St) (A1 : Nat) (W1 : Int) (k m : Nat) (ls : List St) (sv : Value) (xs : List Value) (wr : World) : Prop where
  ri : RI (isSt (d + 9)) 33 10 w.heap.size ls sv xs wr
  pr : PR wr q g s (outAt (pRep f k A1) A1 W1) (outWr (pRep f k A1) W1) m
  kp : Kp g (some q) w wr
  len : ls.length ≤ k
  lo : n ≤ m
  hi : m ≤ n + k * (1 + 2 * Bnd d)
  gq : g < w.heap.size ∧ q < w.heap.size
  val : W1 = 0 → ∀ ys p, pRep f k A1 = .ok (ys, p) → Cut (d + 9) n m ls ys
theorem BS.start {w w1 : World} {q g : Nat} {s : ByteArray} (d : Nat) {n : Nat} (f : Nat → Res St) {A1 : Nat} {W1 : Int} (hp : PR w1 q g s A1 W1 n) (k : Kp g none w w1) (hg : g < w.heap.size ∧ q < w.heap.size) : BS w q g s d n f A1 W1 0 n [] (.slice none 0 0) [] w1 := by
  have h0 := rep_zero f A1 W1
  refine ⟨RI.start _ _ _ _ _ k.size, by rw [h0.1, h0.2]; exact hp, k.weak, by simp, Nat.le_refl _, by omega, hg, fun _ ys p h => ?_⟩
  cases h
  exact Cut.nil _ _
/-- What the round's statement leaves: all blocks of the block's own are as they were. -/
theorem BS.far {w : World} {q g : Nat} {s : ByteArray} {d n : Nat} {f : Nat → Res St} {A1 : Nat} {W1 : Int} {k m : Nat} {ls : List St} {sv : Value} {xs : List Value} {wr w5 : World} (h : BS w q g s d n f A1 W1 k m ls sv xs wr) (kp : Kp g (some q) wr w5) : ∀ b, w.heap.size ≤ b → b < wr.heap.size → w5.heap[b]? = wr.heap[b]? := fun b h1 h2 => by
  have := h.gq
  exact kp.block b h2 (by omega) (fun e => by have : b = q := by simpa using e
                                              omega)
theorem BS.state {w : World} {q g : Nat} {s : ByteArray} {d n : Nat} {f : Nat → Res St} {A1 : Nat} {W1 : Int} {k m : Nat} {ls : List St} {sv : Value} {xs : List Value} {wr : World} (h : BS w q g s d n f A1 W1 k m ls sv xs wr) (hf : ∀ p, p ≤ s.data.toList.length → GoodP s.data.toList p (fun _ _ => True) (f p)) (hA : A1 ≤ s.data.toList.length) :
    outAt (pRep f (k + 1) A1) A1 W1 = outAt (f (outAt (pRep f k A1) A1 W1)) (outAt (pRep f k A1) A1 W1) (outWr (pRep f k A1) W1) ∧ outWr (pRep f (k + 1) A1) W1 = outWr (f (outAt (pRep f k A1) A1 W1)) (outWr (pRep f k A1) W1) := by
  refine rep_state (GoodP.sane (P := fun _ _ => True) (s := s.data.toList) (at_ := A1) ?_) W1
  clear h
  induction k generalizing A1 with
  | zero => exact good_ok hA trivial
  | succ k ih => exact good_then (hf A1 hA) fun x q _ _ hq _ => good_then (ih hq) fun xs q2 _ _ hq2 _ => good_ok hq2 trivial
/-- The round's value: one statement more (v: as it is kept). -/
theorem BS.value {w : World} {q g : Nat} {s : ByteArray} {d n : Nat} {f : Nat → Res St} {A1 : Nat} {W1 : Int} {k m : Nat} {ls : List St} {sv : Value} {xs : List Value} {wr : World} (h : BS w q g s d n f A1 W1 k m ls sv xs wr) {m5 : Nat} {x5 : St}
    (hx : outWr (pRep f k A1) W1 = 0 → ∀ y p, f (outAt (pRep f k A1) A1 W1) = .ok (y, p) → CutS (d + 8) (m + 1) m5 x5 y) :
    W1 = 0 → ∀ ys p, pRep f (k + 1) A1 = .ok (ys, p) → Cut (d + 9) n m5 (if m + 1 ≤ 41 then ls ++ [x5] else ls) ys := by
  intro h0 ys p hy
  rw [rep_snoc] at hy
  obtain ⟨zs, p1, h1, h2⟩ := then_ok hy
  obtain ⟨y, p2, h3, h4⟩ := then_ok h2
  cases h4
  subst h0
  have hs := ok_state h1 A1
  rw [hs.1, hs.2] at hx
  have hc := hx rfl y _ h3
  split
  · next hk => exact (h.val rfl zs p1 h1).snoc hc hk
  · next hk => exact (h.val rfl zs p1 h1).skip hc hk
theorem Kp.grow {g : Nat} {o : Option Nat} {w wr w6 w9 : World} {ob : Go.Obj} {row : Option Nat} (k : Kp g o w w6) (hg : (w6.alloc ob).grownBy w9 row) (hr : ∀ r, row = some r → w.heap.size ≤ r) : Kp g o w w9 := by
  have hz : w6.heap.size + 1 ≤ w9.heap.size := by have := hg.size; simpa using this
  refine ⟨hg.os.trans k.os, hg.tape.trans k.tape, hg.output.trans k.output, by have := k.size; omega, fun i hi hne ho => ?_⟩
  have := k.size
  rw [hg.block i (by simp; omega) (fun e => by have := hr i e.symm; omega), heap_alloc_old w6 ob (by omega)]
  exact k.block i hi hne ho
theorem PR.grow {w : World} {q g : Nat} {s : ByteArray} {a : Nat} {wr : Int} {n : Nat} {w6 w9 : World} {ob : Go.Obj} {row : Option Nat} (h : PR w6 q g s a wr n) (hg : (w6.alloc ob).grownBy w9 row) (hr : ∀ r, row = some r → w.heap.size ≤ r) (hq : g < w.heap.size ∧ q < w.heap.size) : PR w9 q g s a wr n := by
  have hl := h.lt
  have hk : ∀ i, i < w6.heap.size → i < w.heap.size → w9.heap[i]? = w6.heap[i]? := fun i hi hw => by
    rw [hg.block i (by simp; omega) (fun e => by have := hr i e.symm; omega), heap_alloc_old w6 ob hi]
  exact ⟨h.obj.same (hk q hl.1 hq.2), ⟨h.rd.1.same (hk g hl.2 hq.1), h.rd.2⟩⟩
theorem BS.hi5 {k m m5 n B : Nat} (h : m ≤ n + k * (1 + 2 * B)) (h5 : m5 ≤ m + 1 + 2 * B) : m5 ≤ n + (k + 1) * (1 + 2 * B) := by
  rw [Nat.add_mul, Nat.one_mul]
  omega
theorem BS.kept {w : World} {q g : Nat} {s : ByteArray} {d n : Nat} {f : Nat → Res St} {A1 : Nat} {W1 : Int} {k m : Nat} {ls : List St} {sv : Value} {xs : List Value} {wr w5 w6 w9 : World} (h : BS w q g s d n f A1 W1 k m ls sv xs wr)
    (hst : outAt (pRep f (k + 1) A1) A1 W1 = outAt (f (outAt (pRep f k A1) A1 W1)) (outAt (pRep f k A1) A1 W1) (outWr (pRep f k A1) W1) ∧ outWr (pRep f (k + 1) A1) W1 = outWr (f (outAt (pRep f k A1) A1 W1)) (outWr (pRep f k A1) W1))
    {m5 : Nat} {x5 : St} {r : Raw} {z : Nat} (hz : z = wr.heap.size) (hA : SAt w5 z w5.heap.size (d + 9) r x5) (hm : m + 1 ≤ m5 ∧ m5 ≤ m + 1 + 2 * Bnd d) (hx : outWr (pRep f k A1) W1 = 0 → ∀ y p, f (outAt (pRep f k A1) A1 W1) = .ok (y, p) → CutS (d + 8) (m + 1) m5 x5 y)
    (hp : PR w5 q g s (outAt (f (outAt (pRep f k A1) A1 W1)) (outAt (pRep f k A1) A1 W1) (outWr (pRep f k A1) W1)) (outWr (f (outAt (pRep f k A1) A1 W1)) (outWr (pRep f k A1) W1)) m5) (hk5 : Kp g (some q) wr w5) (b6 : Below w5.heap.size w5 w6) (hkp : m + 1 ≤ 41)
    (hr : RI (isSt (d + 9)) 33 10 w.heap.size ls sv xs w6) {o : Go.Obj} {gg cap : Nat}
    (hown : w9.ownsRow w.heap.size 33 10 (.slice (some ⟨gg, 0, none⟩) (ls.length + 1) cap) (ls.length + 1) (xs ++ r.cells)) (hgrow : (w6.alloc o).grownBy w9 sv.ownBlock) (hat : sv.ownBlock = some gg ∨ gg = w6.heap.size + 1) :
    BS w q g s d n f A1 W1 (k + 1) m5 (ls ++ [x5]) (.slice (some ⟨gg, 0, none⟩) (ls.length + 1) cap) (xs ++ r.cells) w9 := by
  subst hz
  have hrow : ∀ r, sv.ownBlock = some r → w.heap.size ≤ r := fun r hr' => (h.ri.own.lt r hr').1
  refine ⟨hr.step (isSt_kept _) (m := wr.heap.size) rfl (isSt_of (hA.mem (fun b _ hb => b6.block b hb) b6.size)) h.ri.bs (fun r hr' => (h.ri.own.lt r hr').2) hown hgrow hat, ?_, (h.kp.trans2 (hk5.trans2 (kp_below b6))).grow (wr := wr) hgrow hrow, ?_, ?_, BS.hi5 h.hi hm.2, h.gq, ?_⟩
  · rw [hst.1, hst.2]
    exact (hp.below b6).grow hgrow hrow h.gq
  · rw [List.length_append]
    have := h.len
    simp
    omega
  · have := h.lo
    omega
  · have := h.value hx
    rw [if_pos hkp] at this
    exact this
theorem BS.skip {w : World} {q g : Nat} {s : ByteArray} {d n : Nat} {f : Nat → Res St} {A1 : Nat} {W1 : Int} {k m : Nat} {ls : List St} {sv : Value} {xs : List Value} {wr w5 w6 : World} (h : BS w q g s d n f A1 W1 k m ls sv xs wr)
    (hst : outAt (pRep f (k + 1) A1) A1 W1 = outAt (f (outAt (pRep f k A1) A1 W1)) (outAt (pRep f k A1) A1 W1) (outWr (pRep f k A1) W1) ∧ outWr (pRep f (k + 1) A1) W1 = outWr (f (outAt (pRep f k A1) A1 W1)) (outWr (pRep f k A1) W1))
    {m5 : Nat} {x5 : St} (hm : m + 1 ≤ m5 ∧ m5 ≤ m + 1 + 2 * Bnd d) (hx : outWr (pRep f k A1) W1 = 0 → ∀ y p, f (outAt (pRep f k A1) A1 W1) = .ok (y, p) → CutS (d + 8) (m + 1) m5 x5 y)
    (hp : PR w5 q g s (outAt (f (outAt (pRep f k A1) A1 W1)) (outAt (pRep f k A1) A1 W1) (outWr (pRep f k A1) W1)) (outWr (f (outAt (pRep f k A1) A1 W1)) (outWr (pRep f k A1) W1)) m5) (hk5 : Kp g (some q) wr w5) (b6 : Below w5.heap.size w5 w6) (hkp : ¬ m + 1 ≤ 41)
    (hr : RI (isSt (d + 9)) 33 10 w.heap.size ls sv xs w6) :
    BS w q g s d n f A1 W1 (k + 1) m5 ls sv xs w6 := by
  refine ⟨hr, ?_, h.kp.trans2 (hk5.trans2 (kp_below b6)), ?_, ?_, BS.hi5 h.hi hm.2, h.gq, ?_⟩
  · rw [hst.1, hst.2]
    exact hp.below b6
  · have := h.len
    omega
  · have := h.lo
    omega
  · have := h.value hx
    rw [if_neg hkp] at this
    exact this
set_option maxRecDepth 100000 in
set_option maxHeartbeats 4000000 in
theorem block7_of (d : Nat) (q g : Nat) (s : ByteArray) (deep : Nat) (hdeep : deep ≤ 7) (f : Nat → Res St) (hf : ∀ p, p ≤ s.data.toList.length → GoodP s.data.toList p (fun _ _ => True) (f p))
    (at_ : Nat) (W0 : Int) (n : Nat) (w : World) (h : PR w q g s at_ W0 n) (ht : Tab w q g) (M A1 : Nat) (W1 : Int) (hM : M = outN (pNest s.data.toList 0 40 deep at_) W0) (hA : A1 = outAt (pNest s.data.toList 0 40 deep at_) at_ W0) (hW : W1 = outWr (pNest s.data.toList 0 40 deep at_) W0)
    (HS : 0 < M → ∀ (a : Nat) (W : Int) (m : Nat) (W' : World), PR W' q g s a W m → Tab W' q g → m + 2 * Bnd d ≤ 9000000000000000000 → Calls Tryd.prog 62 #[.pointer (some ⟨q, 0, none⟩), .int .i64 deep] W' (St7 q g s m d (f a) a W W'))
    (hn : n + M * (1 + 2 * Bnd d) ≤ 9000000000000000000) :
    Calls Tryd.prog 53 #[.pointer (some ⟨q, 0, none⟩), .int .i64 deep] w fun e w' => ∃ (A : Option Addr) (c : Nat) (x : List St) (n' : Nat), e = .returned (.slice A x.length c) ∧ SKids w' w.heap.size w'.heap.size (d + 9) A x ∧ x.length ≤ M ∧ n ≤ n' ∧ n' ≤ n + M * (1 + 2 * Bnd d) ∧ (W1 = 0 → ∀ y p, pRep f M A1 = .ok (y, p) → Cut (d + 9) n n' x y) ∧ PR w' q g s (outAt (pRep f M A1) A1 W1) (outWr (pRep f M A1) W1) n' ∧ Kp g (some q) w w' := by
  have HN : Hid (Calls Tryd.prog 61 #[.pointer (some ⟨q, 0, none⟩), .int .i64 0, .int .i64 40, .int .i64 deep] w (Num7 q g s n (pNest s.data.toList 0 40 deep at_) at_ W0 w)) := nest7_any q g s at_ W0 n 0 40 deep (by omega) (by omega) _ h
  unfold Num7 at HN
  have hM40 := nest_le (s := s.data.toList) (lo := 0) (hi := 40) (deep := deep) (at_ := at_) (wr := W0)
  rw [← hM] at HN hM40
  rw [← hA, ← hW] at HN
  have HT := Lib.hid ht
  have HSS := Lib.hid HS
  have HF := Lib.hid hf
  have HG : Hid (g < w.heap.size ∧ q < w.heap.size) := ⟨h.lt.2, h.lt.1⟩
  have HNB := Lib.hid hn
  clear hM hA hW ht HS h hf hn
  have i7 : (deep : Int) ≤ 7 := by omega
  go_enter Tryd.func53, Tryd.ntmps53
  go_wp2_with fail
  refine HN.out.mono ?_
  rintro _ w1 ⟨rfl, p1, k1⟩
  have HAL : Hid (A1 ≤ s.data.toList.length) := p1.rd.2.1
  have HI0 := Lib.hid (BS.start d f p1 k1 HG.out)
  clear p1 k1
  go_wp2_with fail
  go_loopw [5, 11] (fun l i wr => ∃ (k m : Nat) (xs : List Value) (ls : List St), k ≤ M ∧ i = .int .i64 k ∧ Hid (BS w q g s d n f A1 W1 k m ls l xs wr)) (fun _ i _ => M - (intOf i).toNat)
  case atStart => exact ⟨0, n, [], [], by omega, by go_num, HI0.out⟩
  case round =>
    obtain ⟨k, m, xs, ls, hk, rfl, INV⟩ := hrel
    obtain ⟨lA, ll, lc, rfl⟩ := own_form INV.out.ri.own
    by_cases hlt : k < M
    · have c1 := INV.out.pr.c1
      have f1 := INV.out.pr.obj.free 1
      have hcount := INV.out.pr.count (m + 1)
      have hmul : (k + 1) * (1 + 2 * Bnd d) ≤ M * (1 + 2 * Bnd d) := Nat.mul_le_mul_right _ hlt
      have hmm : m + 1 + 2 * Bnd d ≤ 9000000000000000000 := by
        have h1 := INV.out.hi
        have h2 := HNB.out
        rw [Nat.add_mul, Nat.one_mul] at hmul
        omega
      have HMM := Lib.hid hmm
      have HMUL := Lib.hid hmul
      have HW5 := Lib.hid (HSS.out (by omega) _ _ (m + 1) _ hcount.1 (HT.out.kp (INV.out.kp.trans2 hcount.2)) hmm)
      have HK1 := Lib.hid hcount.2
      have hc1 : (((m + 1 : Nat)) : Int) = (m : Int) + 1 := by omega
      rw [hc1] at HW5 HK1
      have c2 : (w : World) = w := rfl
      have m0 : (0 : Int) ≤ m := by omega
      have m9 : (m : Int) + 1 ≤ 9000000000000000000 := by omega
      have hq1 : (wr.setCell ⟨q, 1, none⟩ (.int .i64 ((m : Int) + 1))).cell? ⟨q, 1, none⟩ = some (.int .i64 ((m : Int) + 1)) := by
        have := hcount.1.c1
        rw [hc1] at this
        exact this
      obtain ⟨wq, hwq⟩ : ∃ W, W = wr.setCell ⟨q, 1, none⟩ (.int .i64 ((m : Int) + 1)) := ⟨_, rfl⟩
      rw [← hwq] at HW5 HK1 hq1
      have HWQ := Lib.hid hwq
      clear hcount hmul hmm hwq c2
      go_upto_region 5 with fail
      rw [← HWQ.out]
      clear c1 f1 m9 m0 hc1
      have HKEPT : Hid (∀ w6 : World, Kp g (some q) wr w6 → RI (isSt (d + 9)) 33 10 w.heap.size ls (.slice lA ll lc) xs w6) := fun w6 hk6 => INV.out.ri.keep (isSt_kept _) (INV.out.far hk6) hk6.size
      have HSTA := Lib.hid (INV.out.state HF.out HAL.out)
      by_cases hkp : m + 1 ≤ 41
      · have i41 : (m : Int) + 1 ≤ 41 := by omega
        go_wp2_with fail
        refine HW5.out.mono ?_
        rintro _ w5 ⟨r, x5, m5, rfl, hA5, hm5, hm6, hX5, hp5, hk5⟩
        obtain ⟨rk, rt, rao, ran, raA, ral, rac, rbo, rbn, rbA, rbl, rbc, ryA, ryl, ryc, reA, rel, r9c⟩ := r
        dsimp only [Raw.v]
        have HA5 := Lib.hid hA5
        have HX5 := Lib.hid hX5
        have HP5 := Lib.hid hp5
        have HK5 := Lib.hid (HK1.out.trans2 hk5)
        have HM5 := Lib.hid (And.intro hm5 hm6)
        have hwq : Hid (wq.heap.size = wr.heap.size) := by show _ = _; rw [HWQ.out]; simp
        have hb6 : Below w5.heap.size w5 (w5.alloc (.cells #[.int .u8 rk, .int .i64 rt, .int .u8 rao, .int .i64 ran, .slice raA ral rac, .int .u8 rbo, .int .i64 rbn, .slice rbA rbl rbc, .slice ryA ryl ryc, .slice reA rel r9c] 33)) := (Below.refl _ _).alloc (Nat.le_refl _) _
        have HB6 := Lib.hid hb6
        have HR6 := Lib.hid (HKEPT.out _ (HK5.out.trans2 (kp_below hb6)))
        have HOWN := Lib.hid HR6.out.own
        have HBS := Lib.hid HR6.out.bs
        have hl100 : ls.length ≤ 100000 := by have := INV.out.len; omega
        clear hA5 hX5 hp5 hk5 hm5 hm6 hb6
        go_wp2_with (first | (at_builtin; refine append_st (r := ⟨rk, rt, rao, ran, raA, ral, rac, rbo, rbn, rbA, rbl, rbc, ryA, ryl, ryc, reA, rel, r9c⟩) HOWN.out HBS.out hl100 rfl (.tmp 29) (.tmp 31) rfl rfl rfl (by simp) ?_; intro gg cap w9 hown hgrow hat hgl) | fail)
        have HNX := Lib.hid (INV.out.kept HSTA.out hwq.out HA5.out HM5.out HX5.out HP5.out HK5.out HB6.out hkp HR6.out hown hgrow (hat.imp id fun h => by simpa using h))
        clear hown hgrow hat hgl
        go_wp2_with fail
        go_roundw
        case rel => exact ⟨k + 1, m5, _, _, by omega, by go_num, HNX.out⟩
        case measure => simp [intOf]; omega
      · have i41 : ¬ (m : Int) + 1 ≤ 41 := by omega
        go_wp2_with fail
        refine HW5.out.mono ?_
        rintro _ w5 ⟨r, x5, m5, rfl, hA5, hm5, hm6, hX5, hp5, hk5⟩
        obtain ⟨rk, rt, rao, ran, raA, ral, rac, rbo, rbn, rbA, rbl, rbc, ryA, ryl, ryc, reA, rel, r9c⟩ := r
        dsimp only [Raw.v]
        have hk55 := HK1.out.trans2 hk5
        have hb6 : Below w5.heap.size w5 (w5.alloc (.cells #[.int .u8 rk, .int .i64 rt, .int .u8 rao, .int .i64 ran, .slice raA ral rac, .int .u8 rbo, .int .i64 rbn, .slice rbA rbl rbc, .slice ryA ryl ryc, .slice reA rel r9c] 33)) := (Below.refl _ _).alloc (Nat.le_refl _) _
        have HNX := Lib.hid (INV.out.skip HSTA.out ⟨hm5, hm6⟩ hX5 hp5 hk55 hb6 hkp (HKEPT.out _ (hk55.trans2 (kp_below hb6))))
        clear hA5 hX5 hp5 hk5 hb6 hk55
        go_wp2_with fail
        go_roundw
        case rel => exact ⟨k + 1, m5, _, _, by omega, by go_num, HNX.out⟩
        case measure => simp [intOf]; omega
    · obtain rfl : k = M := by omega
      obtain ⟨A, c, hsv, hkid⟩ := INV.out.ri.kids
      have hsv' : lA = A ∧ ll = ls.length ∧ lc = c := by
        injection hsv with e1 e2 e3
        exact ⟨e1, e2, e3⟩
      obtain ⟨rfl, rfl, rfl⟩ := hsv'
      have HK := Lib.hid hkid
      clear hkid hsv
      go_wp2_with fail
      go_ret
      exact ⟨lA, lc, ls, m, rfl, HK.out, INV.out.len, INV.out.lo, INV.out.hi, INV.out.val, INV.out.pr, INV.out.kp⟩
end Go.Proofs.YtpgkhodofhnpnaaDoor
