/-
  LAYER 7's READER: what a thread is read as (thread): transaction by transaction. Conditions: as XPh's.
-/
import Derived.Test.YtpgkhodofhnpnaaDoorPk
namespace Go.Proofs.YtpgkhodofhnpnaaDoor
set_option maxRecDepth 100000
open Go.RowKit
set_option linter.unusedVariables false
/-- Element by element. -/
def All2 {α β : Type} (R : α → β → Prop) (l : List α) (m : List β) : Prop := l.length = m.length ∧ ∀ j (h : j < l.length) (h' : j < m.length), R l[j] m[j]
theorem All2.nil {α β : Type} (R : α → β → Prop) : All2 R [] [] := ⟨rfl, fun j h => absurd h (by simp)⟩
theorem All2.snoc {α β : Type} {R : α → β → Prop} {l : List α} {m : List β} (h : All2 R l m) {x : α} {y : β} (hx : R x y) : All2 R (l ++ [x]) (m ++ [y]) := by
  refine ⟨by simp [h.1], fun j h1 h2 => ?_⟩
  have hl := h.1
  by_cases hj : j < l.length
  · rw [List.getElem_append_left hj, List.getElem_append_left (by omega)]
    exact h.2 j hj _
  · obtain rfl : j = l.length := by simp at h1; omega
    have e1 : (l ++ [x])[l.length]'h1 = x := by simp
    have e2 : (m ++ [y])[l.length]'h2 = y := by simp [hl]
    rw [e1, e2]
    exact hx
/-- A transaction as it is kept. -/
def CutT (x y : List St) : Prop := ∃ n', Cut 14 0 n' x y
def isTxR (d : Nat) (w : World) (S : Nat → Prop) (us : List Value) (tx : List St) : Prop := ∃ C c, us = [.slice C tx.length c] ∧ tx.length ≤ 41 ∧ SKidsS w S d C tx
theorem isTxR_kept (d : Nat) : KeptR (isTxR d) := fun w w' S S' us x ⟨C, c, h1, h2, h3⟩ hS hk => ⟨C, c, h1, h2, h3.keep hS hk⟩
/-- How things are behind k transactions. -/
structure TS (w : World) (q g : Nat) (s : ByteArray) (f : Nat → Res (List St)) (A1 : Nat) (W1 : Int) (k m : Nat) (ls : List (List St)) (sv : Value) (xs : List Value) (wr : World) : Prop where
  ri : RI (isTxR 14) 31 1 w.heap.size ls sv xs wr
  pr : PR wr q g s (outAt (pRep f k A1) A1 W1) (outWr (pRep f k A1) W1) m
  kp : Kp g (some q) w wr
  len : ls.length = k
  gq : g < w.heap.size ∧ q < w.heap.size
  val : W1 = 0 → ∀ ys p, pRep f k A1 = .ok (ys, p) → All2 CutT ls ys
theorem TS.start {w w1 : World} {q g : Nat} {s : ByteArray} {n : Nat} (f : Nat → Res (List St)) {A1 : Nat} {W1 : Int} (hp : PR w1 q g s A1 W1 n) (k : Kp g none w w1) (hg : g < w.heap.size ∧ q < w.heap.size) : TS w q g s f A1 W1 0 n [] (.slice none 0 0) [] w1 := by
  have h0 := rep_zero f A1 W1
  refine ⟨RI.start _ _ _ _ _ k.size, by rw [h0.1, h0.2]; exact hp, k.weak, rfl, hg, fun _ ys p h => ?_⟩
  cases h
  exact All2.nil _
theorem far_of {w wr w5 : World} {g q : Nat} (hq : g < w.heap.size ∧ q < w.heap.size) (kp : Kp g (some q) wr w5) : ∀ b, w.heap.size ≤ b → b < wr.heap.size → w5.heap[b]? = wr.heap[b]? := fun b h1 h2 =>
  kp.block b h2 (by omega) (fun e => by have : b = q := by simpa using e
                                        omega)
theorem rep_st {α : Type} {s : ByteArray} {f : Nat → Res α} (hf : ∀ p, p ≤ s.data.toList.length → GoodP s.data.toList p (fun _ _ => True) (f p)) (k : Nat) {A1 : Nat} (hA : A1 ≤ s.data.toList.length) (W1 : Int) :
    outAt (pRep f (k + 1) A1) A1 W1 = outAt (f (outAt (pRep f k A1) A1 W1)) (outAt (pRep f k A1) A1 W1) (outWr (pRep f k A1) W1) ∧ outWr (pRep f (k + 1) A1) W1 = outWr (f (outAt (pRep f k A1) A1 W1)) (outWr (pRep f k A1) W1) := by
  refine rep_state (GoodP.sane (P := fun _ _ => True) (s := s.data.toList) (at_ := A1) ?_) W1
  induction k generalizing A1 with
  | zero => exact good_ok hA trivial
  | succ k ih => exact good_then (hf A1 hA) fun x q _ _ hq _ => good_then (ih hq) fun xs q2 _ _ hq2 _ => good_ok hq2 trivial
/-- The value of one element more. -/
theorem rep_val {α β : Type} {f : Nat → Res α} {R : β → α → Prop} {A1 k : Nat} {W1 : Int} {ls : List β} (hv : W1 = 0 → ∀ ys p, pRep f k A1 = .ok (ys, p) → All2 R ls ys) {x : β} (hx : outWr (pRep f k A1) W1 = 0 → ∀ y p, f (outAt (pRep f k A1) A1 W1) = .ok (y, p) → R x y) :
    W1 = 0 → ∀ ys p, pRep f (k + 1) A1 = .ok (ys, p) → All2 R (ls ++ [x]) ys := by
  intro h0 ys p hy
  rw [rep_snoc] at hy
  obtain ⟨zs, p1, h1, h2⟩ := then_ok hy
  obtain ⟨y, p2, h3, h4⟩ := then_ok h2
  cases h4
  subst h0
  have hs := ok_state h1 A1
  rw [hs.1, hs.2] at hx
  exact (hv rfl zs p1 h1).snoc (hx rfl y _ h3)
theorem TS.next {w : World} {q g : Nat} {s : ByteArray} {f : Nat → Res (List St)} (hf : ∀ p, p ≤ s.data.toList.length → GoodP s.data.toList p (fun _ _ => True) (f p)) {A1 : Nat} (hA : A1 ≤ s.data.toList.length) {W1 : Int} {k m : Nat} {ls : List (List St)} {sv : Value} {xs : List Value} {wr w5 w9 : World} (h : TS w q g s f A1 W1 k m ls sv xs wr)
    {m5 z c : Nat} {C : Option Addr} {x5 : List St} (hz : z = wr.heap.size) (hS : SKids w5 z w5.heap.size 14 C x5) (hl : x5.length ≤ 41) (hx : outWr (pRep f k A1) W1 = 0 → ∀ y p, f (outAt (pRep f k A1) A1 W1) = .ok (y, p) → CutT x5 y)
    (hp : PR w5 q g s (outAt (f (outAt (pRep f k A1) A1 W1)) (outAt (pRep f k A1) A1 W1) (outWr (pRep f k A1) W1)) (outWr (f (outAt (pRep f k A1) A1 W1)) (outWr (pRep f k A1) W1)) m5) (hk5 : Kp g (some q) wr w5)
    {o : Go.Obj} {gg cap : Nat} (hown : w9.ownsRow w.heap.size 31 1 (.slice (some ⟨gg, 0, none⟩) (ls.length + 1) cap) (ls.length + 1) (xs ++ [.slice C x5.length c])) (hgrow : (w5.alloc o).grownBy w9 sv.ownBlock) (hat : sv.ownBlock = some gg ∨ gg = w5.heap.size + 1) :
    TS w q g s f A1 W1 (k + 1) m5 (ls ++ [x5]) (.slice (some ⟨gg, 0, none⟩) (ls.length + 1) cap) (xs ++ [.slice C x5.length c]) w9 := by
  subst hz
  have hrow : ∀ r, sv.ownBlock = some r → w.heap.size ≤ r := fun r hr' => (h.ri.own.lt r hr').1
  have hst := rep_st hf k hA W1
  refine ⟨(h.ri.keep (isTxR_kept _) (far_of h.gq hk5) hk5.size).step (isTxR_kept _) (m := wr.heap.size) rfl ⟨C, c, rfl, hl, hS.toS⟩ h.ri.bs (fun r hr' => (h.ri.own.lt r hr').2) hown hgrow hat, ?_, (h.kp.trans2 hk5).grow (wr := wr) hgrow hrow, ?_, h.gq, rep_val h.val hx⟩
  · rw [hst.1, hst.2]
    exact hp.grow hgrow hrow h.gq
  · rw [List.length_append, h.len]
    rfl
theorem RI.txs {base : Nat} {l : List (List St)} {sv : Value} {xs : List Value} {wr : World} (h : RI (isTxR 14) 31 1 base l sv xs wr) : ∃ A c, sv = .slice A l.length c ∧ Txs wr base wr.heap.size 14 A l := by
  obtain ⟨A, c, rfl, hp⟩ := h.done (by omega)
  refine ⟨A, c, rfl, fun j hj => ?_⟩
  obtain ⟨g, us, rfl, g1, g2, _, hc, C, c', rfl, hl, hs⟩ := hp j hj
  refine ⟨⟨g, 0, none⟩, C, c', rfl, g1, g2, ?_, by omega, hs.to fun b hb => ⟨hb.1, hb.2.1⟩⟩
  have := hc 0 _ (by omega) rfl
  rw [Nat.mul_one, Nat.add_zero] at this
  rw [row_add]
  exact this
/-- What a thread is read as. -/
def Th7 (q g : Nat) (s : ByteArray) (r : Res (List (List St))) (at_ : Nat) (wr : Int) (w : World) (e : Ending) (w' : World) : Prop :=
  ∃ (A : Option Addr) (c : Nat) (x : List (List St)) (n' : Nat), e = .returned (.slice A x.length c) ∧ Txs w' w.heap.size w'.heap.size 14 A x ∧ x.length ≤ 6 ∧ (wr = 0 → ∀ y p, r = .ok (y, p) → All2 CutT x y) ∧ PR w' q g s (outAt r at_ wr) (outWr r wr) n' ∧ Kp g (some q) w w'
set_option maxRecDepth 100000 in
set_option maxHeartbeats 4000000 in
theorem thread7_any (q g : Nat) (s : ByteArray) (at_ : Nat) (W0 : Int) (n : Nat) (w : World) (h : PR w q g s at_ W0 n) (ht : Tab w q g) :
    Calls Tryd.prog 38 #[.pointer (some ⟨q, 0, none⟩)] w (Th7 q g s (pTh s.data.toList at_) at_ W0 w) := by
  have HN : Hid (Calls Tryd.prog 36 #[.pointer (some ⟨q, 0, none⟩), .int .i64 0, .int .i64 6] w (Num7 q g s n (pNum s.data.toList 0 6 at_) at_ W0 w)) := num7_any q g s at_ W0 n 0 6 (by omega) (by omega) _ h
  unfold Num7 at HN
  have hM6 := num_le (s := s.data.toList) (lo := 0) (hi := 6) (at_ := at_) (wr := W0)
  have hfin := fin_rep (f := pBl s.data.toList 6) (at_ := at_) (W0 := W0) (good_num (s := s.data.toList) (lo := 0) (hi := 6) h.rd.2.1).sane rfl rfl rfl
  obtain ⟨M, hM⟩ : ∃ M, M = outN (pNum s.data.toList 0 6 at_) W0 := ⟨_, rfl⟩
  obtain ⟨A1, hA⟩ : ∃ M, M = outAt (pNum s.data.toList 0 6 at_) at_ W0 := ⟨_, rfl⟩
  obtain ⟨W1, hW⟩ : ∃ M, M = outWr (pNum s.data.toList 0 6 at_) W0 := ⟨_, rfl⟩
  rw [← hM] at HN hM6 hfin
  rw [← hA, ← hW] at HN hfin
  have HFIN := Lib.hid hfin
  have HT := Lib.hid ht
  have HG : Hid (g < w.heap.size ∧ q < w.heap.size) := ⟨h.lt.2, h.lt.1⟩
  have HF : Hid (∀ p, p ≤ s.data.toList.length → GoodP s.data.toList p (fun _ _ => True) (pBl s.data.toList 6 p)) := fun p hp => good_mono (good_bl 6 p hp) fun _ _ _ => trivial
  clear hM hA hW ht h hfin
  go_enter Tryd.func38, Tryd.ntmps38
  go_wp2_with fail
  refine HN.out.mono ?_
  rintro _ w1 ⟨rfl, p1, k1⟩
  have HAL : Hid (A1 ≤ s.data.toList.length) := p1.rd.2.1
  have HI0 := Lib.hid (TS.start (pBl s.data.toList 6) p1 k1 HG.out)
  clear p1 k1
  go_wp2_with fail
  go_loopw [3, 6] (fun l i wr => ∃ (k m : Nat) (xs : List Value) (ls : List (List St)), k ≤ M ∧ i = .int .i64 k ∧ Hid (TS w q g s (pBl s.data.toList 6) A1 W1 k m ls l xs wr)) (fun _ i _ => M - (intOf i).toNat)
  case atStart => exact ⟨0, n, [], [], by omega, by go_num, HI0.out⟩
  case round =>
    obtain ⟨k, m, xs, ls, hk, rfl, INV⟩ := hrel
    obtain ⟨lA, ll, lc, rfl⟩ := own_form INV.out.ri.own
    by_cases hlt : k < M
    · have c1 := INV.out.pr.c1
      have f1 := INV.out.pr.obj.free 1
      have hcount := INV.out.pr.count 0
      have HB : Hid (Calls Tryd.prog 53 #[.pointer (some ⟨q, 0, none⟩), .int .i64 1] (wr.setCell ⟨q, 1, none⟩ (.int .i64 0)) (Bl7 q g s 0 6 (pBl s.data.toList 6 (outAt (pRep (pBl s.data.toList 6) k A1) A1 W1)) (outAt (pRep (pBl s.data.toList 6) k A1) A1 W1) (outWr (pRep (pBl s.data.toList 6) k A1) W1) (wr.setCell ⟨q, 1, none⟩ (.int .i64 0)))) := block7_any 6 q g s 1 (by omega) _ _ 0 _ hcount.1 (HT.out.kp (INV.out.kp.trans2 hcount.2)) (by decide)
      have HK1 : Hid (Kp g (some q) wr (wr.setCell ⟨q, 1, none⟩ (.int .i64 0))) := hcount.2
      obtain ⟨wq, hwq⟩ : ∃ W, W = wr.setCell ⟨q, 1, none⟩ (.int .i64 0) := ⟨_, rfl⟩
      rw [← hwq] at HB HK1
      have HWQ := Lib.hid hwq
      have hz : Hid (wq.heap.size = wr.heap.size) := by show _ = _; rw [hwq]; simp
      clear hcount hwq
      go_upto_region 5 with fail
      rw [← HWQ.out]
      clear c1 f1
      go_wp2_with fail
      refine HB.out.mono ?_
      rintro _ w5 ⟨C, c5, x5, m5, rfl, hS5, hl5, hm5, hm6, hX5, hp5, hk5⟩
      have HS5 := Lib.hid hS5
      have HX5 := Lib.hid hX5
      have HP5 := Lib.hid hp5
      have HK5 := Lib.hid (HK1.out.trans2 hk5)
      have HR5 := Lib.hid (INV.out.ri.keep (isTxR_kept _) (far_of INV.out.gq HK5.out) HK5.out.size)
      have HOWN := Lib.hid HR5.out.own
      have HBS := Lib.hid HR5.out.bs
      have hl100 : ls.length ≤ 100000 := by have := INV.out.len; omega
      have HL5 := Lib.hid hl5
      obtain ⟨N5, hN5⟩ : ∃ N5, N5 = x5.length := ⟨_, rfl⟩
      have HN5 := Lib.hid hN5
      rw [← hN5]
      clear hS5 hX5 hp5 hk5 hm5 hm6 hl5 hN5
      go_wp2_with (first | (at_builtin; refine append_one (wx := w5) (v := .slice C N5 c5) Tryd.underlying34 stmts_info HOWN.out HBS.out hl100 rfl (.tmp 11) (.tmp 14) rfl rfl rfl rfl ?_; intro gg cap w9 hown hgrow hat hgl) | fail)
      rw [HN5.out] at hown hgrow
      have HNX := Lib.hid (INV.out.next HF.out HAL.out hz.out HS5.out HL5.out (fun h y p hy => ⟨_, HX5.out h y p hy⟩) HP5.out HK5.out hown hgrow hat)
      clear hown hgrow hat hgl
      go_wp2_with fail
      go_roundw
      case rel => exact ⟨k + 1, m5, _, _, by omega, by go_num, HNX.out⟩
      case measure => simp [intOf]; omega
    · obtain rfl : k = M := by omega
      obtain ⟨A, c, hsv, hkid⟩ := INV.out.ri.txs
      have hsv' : lA = A ∧ ll = ls.length ∧ lc = c := by
        injection hsv with e1 e2 e3
        exact ⟨e1, e2, e3⟩
      obtain ⟨rfl, rfl, rfl⟩ := hsv'
      have HK := Lib.hid hkid
      clear hkid hsv
      go_wp2_with fail
      go_ret
      have hp := INV.out.pr
      have hfin := HFIN.out
      rw [show (andThen (pNum s.data.toList 0 6 at_) fun m p => pRep (pBl s.data.toList 6) m p) = pTh s.data.toList at_ from rfl] at hfin
      rw [← hfin.1, ← hfin.2.1] at hp
      refine ⟨lA, lc, ls, m, rfl, HK.out, by have := INV.out.len; omega, fun h0 y p hy => ?_, hp, INV.out.kp⟩
      obtain ⟨g1, g2⟩ := hfin.2.2 h0 y p hy
      exact INV.out.val g1 y p g2
end Go.Proofs.YtpgkhodofhnpnaaDoor
