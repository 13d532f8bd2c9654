/-
  LAYER 7's READER: what a setup is read as (setup): the walk. Conditions: as XPh's.
-/
import Derived.Test.YtpgkhodofhnpnaaDoorPm
namespace Go.Proofs.YtpgkhodofhnpnaaDoor
set_option maxRecDepth 100000
open Go.RowKit
set_option linter.unusedVariables false
def isI64 (w : World) (S : Nat → Prop) (us : List Value) (x : Int) : Prop := us = [.int .i64 x] ∧ -9223372036854775808 ≤ x ∧ x < 9223372036854775808
theorem isI64_kept : KeptR isI64 := fun w w' S S' us x h _ _ => h
def TxsP (w : World) (S : Nat → Prop) (d : Nat) (B : Option Addr) (l : List (List St)) : Prop := ∀ k (h : k < l.length), ∃ p C c, B = some p ∧ S p.block ∧ w.cell? (p.add k) = some (.slice C l[k].length c) ∧ l[k].length ≤ 9223372036854775807 ∧ SKidsS w S d C l[k]
def isThR (d : Nat) (w : World) (S : Nat → Prop) (us : List Value) (l : List (List St)) : Prop := ∃ C c, us = [.slice C l.length c] ∧ l.length ≤ 6 ∧ TxsP w S d C l
theorem isThR_kept (d : Nat) : KeptR (isThR d) := fun w w' S S' us x ⟨C, c, h1, h2, h3⟩ hS hk => ⟨C, c, h1, h2, fun k h => by
  obtain ⟨p, D, c2, e1, m1, t1, l1, s1⟩ := h3 k h
  exact ⟨p, D, c2, e1, hS _ m1, (World.cell?_of_block (hk _ (by rw [ad_block]; exact m1))).trans t1, l1, s1.keep hS hk⟩⟩
theorem Txs.toP {w : World} {lo hi d : Nat} {B : Option Addr} {l : List (List St)} (h : Txs w lo hi d B l) : TxsP w (fun b => lo ≤ b ∧ b < hi) d B l := fun k hk => by
  obtain ⟨p, C, c, e1, m1, m2, t1, l1, s1⟩ := h k hk
  exact ⟨p, C, c, e1, ⟨m1, m2⟩, t1, l1, s1.toS⟩
theorem TxsP.to {w : World} {lo hi d : Nat} {S : Nat → Prop} {B : Option Addr} {l : List (List St)} (h : TxsP w S d B l) (hS : ∀ b, S b → lo ≤ b ∧ b < hi) : Txs w lo hi d B l := fun k hk => by
  obtain ⟨p, C, c, e1, m1, t1, l1, s1⟩ := h k hk
  exact ⟨p, C, c, e1, (hS _ m1).1, (hS _ m1).2, t1, l1, s1.to hS⟩
def suB (w : World) : World := (w.alloc (.cells #[.int .i64 0, .int .i64 0, .int .i64 0, .slice none 0 0, .slice none 0 0] 29)).alloc (.cells #[.int .i64 0, .int .i64 0, .int .i64 0, .slice none 0 0, .slice none 0 0] 29)
theorem suB_below (w : World) : Below w.heap.size w (suB w) := ((Below.refl _ _).alloc (Nat.le_refl _) _).alloc (by simp) _
theorem suB_size (w : World) : (suB w).heap.size = w.heap.size + 2 := by simp [suB]
/-- The two boxes of a setup that is read. -/
structure UB (w : World) (q g : Nat) (st cl tr : Int) (iv tv : Value) (W : World) : Prop where
  res : Obj W w.heap.size 29 #[.int .i64 0, .int .i64 0, .int .i64 0, .slice none 0 0, .slice none 0 0]
  box : Obj W (w.heap.size + 1) 29 #[.int .i64 st, .int .i64 cl, .int .i64 tr, iv, tv]
  kp : Kp g (some q) w W
  gq : g < w.heap.size ∧ q < w.heap.size
theorem UB.start (w : World) {q g : Nat} (hg : g < w.heap.size ∧ q < w.heap.size) : UB w q g 0 0 0 (.slice none 0 0) (.slice none 0 0) (suB w) := by
  refine ⟨(Obj.made w _ _).more _, ?_, kp_below (suB_below w), hg⟩
  have := Obj.made (w.alloc (.cells #[.int .i64 0, .int .i64 0, .int .i64 0, .slice none 0 0, .slice none 0 0] 29)) 29 #[.int .i64 0, .int .i64 0, .int .i64 0, .slice none 0 0, .slice none 0 0]
  rw [show (w.alloc (.cells #[.int .i64 0, .int .i64 0, .int .i64 0, .slice none 0 0, .slice none 0 0] 29)).heap.size = w.heap.size + 1 by simp] at this
  exact this
theorem UB.call {w : World} {q g : Nat} {st cl tr : Int} {iv tv : Value} {W W6 : World} (h : UB w q g st cl tr iv tv W) (k : Kp g (some q) W W6) : UB w q g st cl tr iv tv W6 := by
  have hg := h.gq
  have hk : ∀ b, b < W.heap.size → w.heap.size ≤ b → W6.heap[b]? = W.heap[b]? := fun b h1 h2 => far_of hg k b h2 h1
  exact ⟨h.res.same (hk _ h.res.lt (Nat.le_refl _)), h.box.same (hk _ h.box.lt (by omega)), h.kp.trans2 k, hg⟩
theorem UB.put {w : World} {q g : Nat} {st cl tr st' cl' tr' : Int} {iv tv iv' tv' : Value} {W W' : World} (h : UB w q g st cl tr iv tv W) (k : Set1 (w.heap.size + 1) W W') (ho : Obj W' (w.heap.size + 1) 29 #[.int .i64 st', .int .i64 cl', .int .i64 tr', iv', tv']) : UB w q g st' cl' tr' iv' tv' W' :=
  ⟨h.res.same (k.block _ (by omega)), ho, k.kp h.kp (by omega), h.gq⟩
theorem UB.grow {w : World} {q g : Nat} {st cl tr : Int} {iv tv : Value} {W6 w9 : World} (h : UB w q g st cl tr iv tv W6) {ob : Go.Obj} {row : Option Nat} (hg : (W6.alloc ob).grownBy w9 row) (hr : ∀ r, row = some r → w.heap.size + 2 ≤ r) : UB w q g st cl tr iv tv w9 := by
  have hk : ∀ b, b < W6.heap.size → b < w.heap.size + 2 → w9.heap[b]? = W6.heap[b]? := fun b h1 h2 => by
    rw [hg.block b (by simp; omega) (fun e => by have := hr b e.symm; omega), heap_alloc_old W6 ob h1]
  exact ⟨h.res.same (hk _ h.res.lt (by omega)), h.box.same (hk _ h.box.lt (by omega)), h.kp.grow (wr := W6) hg (fun r e => by have := hr r e; omega), h.gq⟩
theorem int64_info7 : (Tryd.prog.info? 2).map (fun i => (i.zero, i.size, i.bytes)) = some (some (.int .i64 0), 1, 8) := by kernel_rfl
theorem append_n64 {ops : Array Oper} {rest : List Oper} {o : Oper} {a : Act} {Q : Exit → Act → World → Prop} {wx : World} {base k : Nat} {sv : Value} {xs : List Value} {v : Int}
    (own : wx.ownsRow base 2 1 sv k xs) (hb : base ≤ wx.heap.size) (hk : k ≤ 100000) (hgd : o.guard = none) (s x : Operand) (ho : o.op = .call { callee := .builtin .append, args := #[s, x], argTypes := #[26, 26] }) (hs : a.eval s = sv) (hx : a.eval x = .slice (some ⟨wx.heap.size, 0, none⟩) 1 1)
    (h : ∀ g cap w', w'.ownsRow base 2 1 (.slice (some ⟨g, 0, none⟩) (k + 1) cap) (k + 1) (xs ++ [.int .i64 v]) → (wx.alloc (.cells #[.int .i64 v] 2)).grownBy w' sv.ownBlock → (sv.ownBlock = some g ∨ g = wx.heap.size + 1) → g < w'.heap.size → wpList Tryd.prog ops Q rest (a.put o.dst (.slice (some ⟨g, 0, none⟩) (k + 1) cap)) w') :
    wpList Tryd.prog ops Q (o :: rest) a (wx.alloc (.cells #[.int .i64 v] 2)) := by
  obtain ⟨i0, hi0, hz0, hz1, hz2⟩ := info_parts2 int64_info7
  exact wpList_append_lies _ hgd s x _ ho base 2 i0 _ 1 8 Tryd.underlying26 hi0 hz0 hz1 hz2 rfl (by omega) sv k xs hs (own.alloc _) ⟨wx.heap.size, 0, none⟩ 1 1 [.int .i64 v] hx rfl (World.news_of_block (cs := #[.int .i64 v]) (t := 2) (fr := (0, 0)) (heap_alloc_new wx _)) (by simp [Value.oneCell']) (by omega) (by unfold maxLen; omega) (by omega) (by simp; omega) (wx.heap.size + 1) (by simp) fun g cap w' a1 a2 a3 a4 => h g cap w' a1 a2 a3 a4
theorem append_one_step {tS tE : TypeId} (hu : Tryd.prog.underlying tS = some (.slice tE)) (hinf : (Tryd.prog.info? tE).map (fun i => (i.zero, i.size, i.bytes)) = some (some (.slice none 0 0), 1, 24)) {ops : Array Oper} {o : Oper} {a : Act} {K : Act → World → Prop} {Q : Exit → Act → World → Prop} {E : Prop} {wx : World} {base k : Nat} {sv v : Value} {xs : List Value}
    (own : wx.ownsRow base tE 1 sv k xs) (hb : base ≤ wx.heap.size) (hk : k ≤ 100000) (hgd : o.guard = none) (s x : Operand) (ho : o.op = .call { callee := .builtin .append, args := #[s, x], argTypes := #[tS, tS] }) (hs : a.eval s = sv) (hx : a.eval x = .slice (some ⟨wx.heap.size, 0, none⟩) 1 1) (hv : v.oneCell' = true)
    (h : ∀ g cap w', w'.ownsRow base tE 1 (.slice (some ⟨g, 0, none⟩) (k + 1) cap) (k + 1) (xs ++ [v]) → (wx.alloc (.cells #[v] tE)).grownBy w' sv.ownBlock → (sv.ownBlock = some g ∨ g = wx.heap.size + 1) → g < w'.heap.size → K (a.put o.dst (.slice (some ⟨g, 0, none⟩) (k + 1) cap)) w') :
    if Region.wanted o (yielded ops a.tmps) = true then Oper.wp Tryd.prog o a (wx.alloc (.cells #[v] tE)) K Q else E := by
  obtain ⟨i0, hi0, hz0, hz1, hz2⟩ := info_parts2 hinf
  have zz : (wx.alloc (.cells #[v] tE)).heap.size = wx.heap.size + 1 := by simp
  exact step_append_lies _ hgd s x _ ho base tE i0 _ 1 24 hu hi0 hz0 hz1 hz2 rfl (by omega) sv k xs hs (own.alloc _) ⟨wx.heap.size, 0, none⟩ 1 1 [v] hx rfl (World.news_of_block (cs := #[v]) (t := tE) (fr := (0, 0)) (heap_alloc_new wx _)) (by intro u hu; simp at hu; rw [hu]; exact hv) (by omega) (by unfold maxLen; omega) (by omega) (by rw [zz]; omega) (wx.heap.size + 1) zz h
theorem PR.drew {w : World} {q g : Nat} {s : ByteArray} {a : Nat} {wr : Int} {n : Nat} (h : PR w q g s a wr n) : PR w.drew q g s a wr n := ⟨h.obj, h.rd⟩
theorem kp_drew (g : Nat) (o : Option Nat) (w : World) : Kp g o w w.drew := ⟨rfl, rfl, rfl, Nat.le_refl _, fun _ _ _ _ => rfl⟩
/-- How things are behind k values. -/
structure VS (w : World) (q g : Nat) (s : ByteArray) (n A1 : Nat) (W1 : Int) (k : Nat) (ini : List Int) (iv : Value) (xs : List Value) (wr : World) : Prop where
  ub : UB w q g 0 0 0 iv (.slice none 0 0) wr
  ri : RI isI64 2 1 (w.heap.size + 2) ini iv xs wr
  pr : PR wr q g s (outAt (pRep (pWhole s.data.toList) k A1) A1 W1) (outWr (pRep (pWhole s.data.toList) k A1) W1) n
  len : ini.length = k
  val : W1 = 0 → ∀ ys p, pRep (pWhole s.data.toList) k A1 = .ok (ys, p) → All2 (fun (x y : Int) => x = y) ini ys
theorem VS.start {w w1 : World} {q g : Nat} {s : ByteArray} {n A1 : Nat} {W1 : Int} (hu : UB w q g 0 0 0 (.slice none 0 0) (.slice none 0 0) w1) (hp : PR w1 q g s A1 W1 n) (hz : w.heap.size + 2 ≤ w1.heap.size) : VS w q g s n A1 W1 0 [] (.slice none 0 0) [] w1 := by
  have h0 := rep_zero (pWhole s.data.toList) A1 W1
  refine ⟨hu, RI.start _ _ _ _ _ hz, by rw [h0.1, h0.2]; exact hp, rfl, fun _ ys p h => ?_⟩
  cases h
  exact All2.nil _
theorem VS.next {w : World} {q g : Nat} {s : ByteArray} {n A1 : Nat} (hA : A1 ≤ s.data.toList.length) {W1 : Int} {k : Nat} {ini : List Int} {iv : Value} {xs : List Value} {wr w5 w9 : World} (h : VS w q g s n A1 W1 k ini iv xs wr) {x5 : Int} (hf : -9223372036854775808 ≤ x5 ∧ x5 < 9223372036854775808)
    (hx : outWr (pRep (pWhole s.data.toList) k A1) W1 = 0 → ∀ y p, pWhole s.data.toList (outAt (pRep (pWhole s.data.toList) k A1) A1 W1) = .ok (y, p) → x5 = y)
    (hp : PR w5 q g s (outAt (pWhole s.data.toList (outAt (pRep (pWhole s.data.toList) k A1) A1 W1)) (outAt (pRep (pWhole s.data.toList) k A1) A1 W1) (outWr (pRep (pWhole s.data.toList) k A1) W1)) (outWr (pWhole s.data.toList (outAt (pRep (pWhole s.data.toList) k A1) A1 W1)) (outWr (pRep (pWhole s.data.toList) k A1) W1)) n) (hk5 : Kp g (some q) wr w5)
    {o : Go.Obj} {gg cap : Nat} (hown : w9.ownsRow (w.heap.size + 2) 2 1 (.slice (some ⟨gg, 0, none⟩) (ini.length + 1) cap) (ini.length + 1) (xs ++ [.int .i64 x5])) (hgrow : (w5.alloc o).grownBy w9 iv.ownBlock) (hat : iv.ownBlock = some gg ∨ gg = w5.heap.size + 1) :
    VS w q g s n A1 W1 (k + 1) (ini ++ [x5]) (.slice (some ⟨gg, 0, none⟩) (ini.length + 1) cap) (xs ++ [.int .i64 x5]) (w9.setCell ⟨w.heap.size + 1, 3, none⟩ (.slice (some ⟨gg, 0, none⟩) (ini.length + 1) cap)) := by
  have hrow : ∀ r, iv.ownBlock = some r → w.heap.size + 2 ≤ r := fun r hr' => (h.ri.own.lt r hr').1
  have hst := rep_st (good_wholeT s.data.toList) k hA W1
  have hg := h.ub.gq
  have kS := Set1.set (w.heap.size + 1) 3 w9 (.slice (some ⟨gg, 0, none⟩) (ini.length + 1) cap)
  have hu9 := (h.ub.call hk5).grow hgrow hrow
  have hri9 := (h.ri.keep isI64_kept (fun b h1 h2 => far_of hg hk5 b (by omega) h2) hk5.size).step isI64_kept (m := wr.heap.size) (us := [.int .i64 x5]) rfl ⟨rfl, hf⟩ h.ri.bs (fun r hr' => (h.ri.own.lt r hr').2) hown hgrow hat
  refine ⟨hu9.put kS (hu9.box.store 3 _), hri9.keep isI64_kept (fun b h1 _ => kS.block b (by omega)) (by rw [kS.size]; exact Nat.le_refl _), ?_, by rw [List.length_append, h.len]; rfl, rep_val h.val hx⟩
  rw [hst.1, hst.2]
  exact (hp.grow hgrow (fun r hr => by have := hrow r hr; omega) hg).set kS (by omega) (by omega)
theorem keepI {base : Nat} {l : List Int} {sv : Value} {xs : List Value} {wr w5 : World} (h : RI isI64 2 1 base l sv xs wr) (hk : ∀ r, sv.ownBlock = some r → w5.heap[r]? = wr.heap[r]?) (hz : wr.heap.size ≤ w5.heap.size) : RI isI64 2 1 base l sv xs w5 := by
  refine ⟨own_below h.own hk, Nat.le_trans h.bs hz, fun j hj => ?_⟩
  obtain ⟨us, e1, e2, e3⟩ := h.parts j hj
  exact ⟨us, e1, e2, e3⟩
/-- How things are behind k threads. -/
structure HS (w : World) (q g : Nat) (s : ByteArray) (A1 : Nat) (W1 : Int) (k n : Nat) (st cl tr : Int) (ini : List Int) (iv : Value) (xs : List Value) (thr : List (List (List St))) (tv : Value) (ys : List Value) (wr : World) : Prop where
  ub : UB w q g st cl tr iv tv wr
  ri : RI isI64 2 1 (w.heap.size + 2) ini iv xs wr
  rt : RI (isThR 14) 34 1 (w.heap.size + 2) thr tv ys wr
  pr : PR wr q g s (outAt (pRep (pTh s.data.toList) k A1) A1 W1) (outWr (pRep (pTh s.data.toList) k A1) W1) n
  len : thr.length = k
  val : W1 = 0 → ∀ zs p, pRep (pTh s.data.toList) k A1 = .ok (zs, p) → All2 (All2 CutT) thr zs
theorem own_apart {w : World} {base : Nat} {sv tv : Value} {n m : Nat} {xs ys : List Value} (h : w.ownsRow base 2 1 sv n xs) (k : w.ownsRow base 34 1 tv m ys) : ∀ r, sv.ownBlock = some r → tv.ownBlock ≠ some r := by
  intro r hr hc
  rcases h.2 with ⟨h1, _⟩ | ⟨g, cap, cur, h1, h2, h3, _⟩
  · rw [h1] at hr; cases hr
  · rw [h1] at hr
    have e1 : g = r := by simpa [Value.ownBlock] using hr
    rcases k.2 with ⟨k1, _⟩ | ⟨g', cap', cur', k1, k2, k3, _⟩
    · rw [k1] at hc; cases hc
    · rw [k1] at hc
      have e2 : g' = r := by simpa [Value.ownBlock] using hc
      subst e1 e2
      rw [h3] at k3
      injection k3 with k3
      injection k3 with _ e
      exact absurd e (by decide)
theorem HS.next {w : World} {q g : Nat} {s : ByteArray} {A1 : Nat} (hA : A1 ≤ s.data.toList.length) {W1 : Int} {k n : Nat} {st cl tr : Int} {ini : List Int} {iv : Value} {xs : List Value} {thr : List (List (List St))} {tv : Value} {ys : List Value} {wr w5 w9 : World} (h : HS w q g s A1 W1 k n st cl tr ini iv xs thr tv ys wr)
    {z m5 c : Nat} {C : Option Addr} {x5 : List (List St)} (hz : z = wr.heap.size) (hS : Txs w5 z w5.heap.size 14 C x5) (hl : x5.length ≤ 6)
    (hx : outWr (pRep (pTh s.data.toList) k A1) W1 = 0 → ∀ y p, pTh s.data.toList (outAt (pRep (pTh s.data.toList) k A1) A1 W1) = .ok (y, p) → All2 CutT x5 y)
    (hp : PR w5 q g s (outAt (pTh s.data.toList (outAt (pRep (pTh s.data.toList) k A1) A1 W1)) (outAt (pRep (pTh s.data.toList) k A1) A1 W1) (outWr (pRep (pTh s.data.toList) k A1) W1)) (outWr (pTh s.data.toList (outAt (pRep (pTh s.data.toList) k A1) A1 W1)) (outWr (pRep (pTh s.data.toList) k A1) W1)) m5) (hk5 : Kp g (some q) wr w5)
    {o : Go.Obj} {gg cap : Nat} (hown : w9.ownsRow (w.heap.size + 2) 34 1 (.slice (some ⟨gg, 0, none⟩) (thr.length + 1) cap) (thr.length + 1) (ys ++ [.slice C x5.length c])) (hgrow : (w5.alloc o).grownBy w9 tv.ownBlock) (hat : tv.ownBlock = some gg ∨ gg = w5.heap.size + 1) :
    HS w q g s A1 W1 (k + 1) m5 st cl tr ini iv xs (thr ++ [x5]) (.slice (some ⟨gg, 0, none⟩) (thr.length + 1) cap) (ys ++ [.slice C x5.length c]) (w9.setCell ⟨w.heap.size + 1, 4, none⟩ (.slice (some ⟨gg, 0, none⟩) (thr.length + 1) cap)) := by
  subst hz
  have hrow : ∀ r, tv.ownBlock = some r → w.heap.size + 2 ≤ r := fun r hr' => (h.rt.own.lt r hr').1
  have hst := rep_st (good_thT s.data.toList) k hA W1
  have hg := h.ub.gq
  have hz5 := hk5.size
  have hz9 : w5.heap.size + 1 ≤ w9.heap.size := by have := hgrow.size; simpa using this
  have hap := own_apart h.ri.own h.rt.own
  have kS := Set1.set (w.heap.size + 1) 4 w9 (.slice (some ⟨gg, 0, none⟩) (thr.length + 1) cap)
  have hu9 := (h.ub.call hk5).grow hgrow hrow
  have hrt9 := (h.rt.keep (isThR_kept _) (fun b h1 h2 => far_of hg hk5 b (by omega) h2) hk5.size).step (isThR_kept _) (m := wr.heap.size) (us := [.slice C x5.length c]) rfl ⟨C, c, rfl, hl, hS.toP⟩ h.rt.bs (fun r hr' => (h.rt.own.lt r hr').2) hown hgrow hat
  refine ⟨hu9.put kS (hu9.box.store 4 _), keepI h.ri (fun r hr => ?_) (by rw [kS.size]; omega), hrt9.keep (isThR_kept _) (fun b h1 _ => kS.block b (by omega)) (by rw [kS.size]; exact Nat.le_refl _), ?_, by rw [List.length_append, h.len]; rfl, rep_val h.val hx⟩
  · have h1 := h.ri.own.lt r hr
    rw [kS.block r (by omega), hgrow.block r (by simp; omega) (fun e => hap r hr e.symm), heap_alloc_old w5 o (by omega)]
    exact far_of hg hk5 r (by omega) h1.2
  · rw [hst.1, hst.2]
    exact (hp.grow hgrow (fun r hr => by have := hrow r hr; omega) hg).set kS (by omega) (by omega)
theorem RI.ints {base : Nat} {l : List Int} {A : Option Addr} {n c : Nat} {xs : List Value} {wr : World} (h : RI isI64 2 1 base l (.slice A n c) xs wr) (hl : l.length ≤ 9223372036854775807) : ∃ c', Value.slice A n c = .slice A l.length c' ∧ Ints wr wr.heap.size A l ∧ ∀ p, A = some p → base ≤ p.block := by
  obtain ⟨A', c', hsv, hp⟩ := h.done (by omega)
  injection hsv with e1 e2 e3
  subst e1 e2 e3
  refine ⟨c, rfl, ⟨hl, fun k hk => ?_⟩, fun p hpA => ?_⟩
  rotate_left
  · rcases h.own.2 with ⟨h1, _⟩ | ⟨g, cap, cur, h1, h2, _⟩
    · injection h1 with e1
      rw [e1] at hpA
      cases hpA
    · injection h1 with e1
      rw [e1] at hpA
      cases hpA
      exact h2
  obtain ⟨g, us, rfl, g1, g2, _, hc, hs, _⟩ := hp k hk
  subst hs
  refine ⟨⟨g, 0, none⟩, rfl, g2, ?_⟩
  have := hc 0 _ (by omega) rfl
  rw [Nat.mul_one, Nat.add_zero] at this
  rw [row_add]
  exact this
theorem RI.thr {base : Nat} {l : List (List (List St))} {sv : Value} {xs : List Value} {wr : World} (h : RI (isThR 14) 34 1 base l sv xs wr) : ∃ A c, sv = .slice A l.length c ∧ Thr wr base wr.heap.size 14 A l := by
  obtain ⟨A, c, rfl, hp⟩ := h.done (by omega)
  refine ⟨A, c, rfl, fun j hj => ?_⟩
  obtain ⟨g, us, rfl, g1, g2, _, hc, C, c', rfl, hl, hs⟩ := hp j hj
  refine ⟨⟨g, 0, none⟩, C, c', rfl, g1, g2, ?_, by omega, hs.to fun b hb => ⟨hb.1, hb.2.1⟩⟩
  have := hc 0 _ (by omega) rfl
  rw [Nat.mul_one, Nat.add_zero] at this
  rw [row_add]
  exact this
theorem All2.eq {α : Type} {l m : List α} (h : All2 (fun x y => x = y) l m) : l = m := List.ext_getElem h.1 fun j h1 h2 => h.2 j h1 h2
theorem Thr.wide' {w : World} {lo hi lo' hi' d : Nat} {A : Option Addr} {l : List (List (List St))} (h : Thr w lo hi d A l) (hl : lo' ≤ lo) (hh : hi ≤ hi') : Thr w lo' hi' d A l := h.wide hl hh
theorem Obj.put5 {w : World} {R : Nat} {t : TypeId} {z0 z1 z2 z3 z4 : Value} (h : Obj w R t #[z0, z1, z2, z3, z4]) (x0 x1 x2 x3 x4 : Value) : Obj (((((w.setCell ⟨R, 0, none⟩ x0).setCell ⟨R, 1, none⟩ x1).setCell ⟨R, 2, none⟩ x2).setCell ⟨R, 3, none⟩ x3).setCell ⟨R, 4, none⟩ x4) R t #[x0, x1, x2, x3, x4] := by
  have h' := ((((h.store 0 x0).store 1 x1).store 2 x2).store 3 x3).store 4 x4
  simp only [List.setIfInBounds_toArray, List.set_cons_succ, List.set_cons_zero] at h'
  exact h'
theorem Set1.five (R : Nat) (w : World) (x0 x1 x2 x3 x4 : Value) : Set1 R w (((((w.setCell ⟨R, 0, none⟩ x0).setCell ⟨R, 1, none⟩ x1).setCell ⟨R, 2, none⟩ x2).setCell ⟨R, 3, none⟩ x3).setCell ⟨R, 4, none⟩ x4) :=
  ((((Set1.set R 0 w _).trans (Set1.set R 1 _ _)).trans (Set1.set R 2 _ _)).trans (Set1.set R 3 _ _)).trans (Set1.set R 4 _ _)
/-- What is kept of a setup. -/
structure SuCut (x y : Su) : Prop where
  st : x.st = y.st
  cl : x.cl = y.cl
  tr : x.tr = y.tr
  ini : x.init = y.init
  thr : All2 (All2 CutT) x.thr y.thr
/-- What a setup is read as. -/
def Su7 (q g : Nat) (s : ByteArray) (w : World) (e : Ending) (w' : World) : Prop :=
  ∃ (I T : Option Addr) (c c' : Nat) (x : Su) (n' : Nat), e = .returned (.agg #[.int .i64 x.st, .int .i64 x.cl, .int .i64 x.tr, .slice I x.init.length c, .slice T x.thr.length c']) ∧ SuAt w' w.heap.size w'.heap.size 14 I T x ∧ (∀ p, I = some p → w.heap.size ≤ p.block) ∧ x.thr.length ≤ 6 ∧ (∀ y p, pSu s.data.toList = .ok (y, p) → SuCut x y) ∧ PR w' q g s (outAt (pSu s.data.toList) 0 0) (outWr (pSu s.data.toList) 0) n' ∧ Kp g (some q) w w'
set_option maxRecDepth 100000 in
set_option maxHeartbeats 4000000 in
theorem setup7_any (q g : Nat) (s : ByteArray) (n : Nat) (w : World) (h : PR w q g s 0 0 n) (ht : Tab w q g) :
    Calls Tryd.prog 20 #[.pointer (some ⟨q, 0, none⟩)] w (Su7 q g s w) := by
  have HG : Hid (g < w.heap.size ∧ q < w.heap.size) := ⟨h.lt.2, h.lt.1⟩
  have HN : Hid (Calls Tryd.prog 36 #[.pointer (some ⟨q, 0, none⟩), .int .i64 1, .int .i64 32] (suB w) (Num7 q g s n (pNum s.data.toList 1 32 0) 0 0 (suB w))) := num7_any q g s 0 0 n 1 32 (by omega) (by omega) _ (h.below (suB_below w))
  unfold Num7 at HN
  have hM32 := num_le (s := s.data.toList) (lo := 1) (hi := 32) (at_ := 0) (wr := 0)
  obtain ⟨M1, hM⟩ : ∃ M, M = outN (pNum s.data.toList 1 32 0) 0 := ⟨_, rfl⟩
  obtain ⟨A1, hA⟩ : ∃ M, M = outAt (pNum s.data.toList 1 32 0) 0 0 := ⟨_, rfl⟩
  obtain ⟨W1, hW⟩ : ∃ M, M = outWr (pNum s.data.toList 1 32 0) 0 := ⟨_, rfl⟩
  rw [← hM] at HN hM32
  rw [← hA, ← hW] at HN
  have HC1 := Lib.hid (And.intro hM (And.intro hA hW))
  have HT := Lib.hid ht
  clear hM hA hW ht h
  unfold suB at HN
  go_enter Tryd.func20, Tryd.ntmps20
  go_wp2_with fail
  refine HN.out.mono ?_
  rintro _ w1 ⟨rfl, p1, k1⟩
  have hV := Lib.hid (VS.start ((UB.start w HG.out).call k1.weak) p1 (by have := k1.size; simpa using this))
  have HAL : Hid (A1 ≤ s.data.toList.length) := p1.rd.2.1
  have HT1 := Lib.hid (HT.out.kp (Kp.of_below (suB_below w) k1).weak)
  clear p1 k1
  go_wp2_with fail
  go_loopw [8] (fun i wr => ∃ (k : Nat) (ini : List Int) (iv : Value) (xs : List Value), k ≤ M1 ∧ i = .int .i64 k ∧ Hid (VS w q g s n A1 W1 k ini iv xs wr)) (fun i _ => M1 - (intOf i).toNat)
  case atStart => exact ⟨0, [], _, [], by omega, by go_num, hV.out⟩
  case round =>
    obtain ⟨k, ini, iv, xs, hk, rfl, INV⟩ := hrel
    obtain ⟨lA, ll, lc, rfl⟩ := own_form INV.out.ri.own
    by_cases hlt : k < M1
    · have c0 := INV.out.pr.c0
      obtain ⟨x5, hx, hxf, hst, hxe⟩ := whole_plain s (outAt (pRep (pWhole s.data.toList) k A1) A1 W1) (outWr (pRep (pWhole s.data.toList) k A1) W1)
      have HI := Lib.hid (rInt_any g s (outAt (pRep (pWhole s.data.toList) k A1) A1 W1) (outWr (pRep (pWhole s.data.toList) k A1) W1) wr INV.out.pr.rd)
      rw [hx, hst] at HI
      have HX := Lib.hid hxf
      have HXE := Lib.hid hxe
      clear hx hst hxe hxf
      go_wp2_with fail
      refine HI.out.mono ?_
      rintro _ w5 ⟨rfl, r5, k5⟩
      have HP5 := Lib.hid (INV.out.pr.move r5 k5)
      have HK5 : Hid (Kp g (some q) wr w5) := k5.weak
      have HU5 := Lib.hid (INV.out.ub.call HK5.out)
      have HR5 := Lib.hid (INV.out.ri.keep isI64_kept (fun b h1 h2 => far_of HG.out HK5.out b (by omega) h2) HK5.out.size)
      have HOWN := Lib.hid HR5.out.own
      have HBS := Lib.hid HR5.out.bs
      have e3 : w5.cell? ⟨w.heap.size + 1, 3, none⟩ = some (.slice lA ll lc) := HU5.out.box.cell 3
      have hl100 : ini.length ≤ 100000 := by have := INV.out.len; omega
      have HZ : Hid (w.heap.size + 1 < w5.heap.size) := HU5.out.box.lt
      clear r5 k5 c0
      go_wp2_with (first | (at_builtin; refine append_n64 (wx := w5) (v := x5) HOWN.out HBS.out hl100 rfl (.tmp 19) (.tmp 21) rfl rfl rfl ?_; intro gg cap w9 hown hgrow hat hgl; have HU9 := Lib.hid (HU5.out.grow hgrow (fun r hr => (HOWN.out.lt r hr).1)); have e9 : w9.cell? ⟨w.heap.size + 1, 3, none⟩ = some (.slice lA ll lc) := HU9.out.box.cell 3; have f9 : w9.frozen? ⟨w.heap.size + 1, 3, none⟩ = false := HU9.out.box.free 3) | fail)
      have HNX := Lib.hid (INV.out.next HAL.out HX.out HXE.out HP5.out HK5.out hown hgrow hat)
      clear hown hgrow hat hgl e3 e9 f9
      go_roundw
      case rel => exact ⟨k + 1, _, _, _, by omega, by go_num, HNX.out⟩
      case measure => simp [intOf]; omega
    · obtain rfl : k = M1 := by omega
      have hll : ll = k := by
        obtain ⟨A', c', h1, _⟩ := INV.out.ri.done (by omega)
        injection h1 with e1 e2 e3
        rw [e2, INV.out.len]
      subst hll
      have HU2 := Lib.hid INV.out.ub
      have HR2 := Lib.hid INV.out.ri
      have HP2 := Lib.hid INV.out.pr
      have HLEN := Lib.hid INV.out.len
      have HVAL := Lib.hid INV.out.val
      obtain ⟨A2, hA2⟩ : ∃ x, x = outAt (pRep (pWhole s.data.toList) ll A1) A1 W1 := ⟨_, rfl⟩
      obtain ⟨W2, hW2⟩ : ∃ x, x = outWr (pRep (pWhole s.data.toList) ll A1) W1 := ⟨_, rfl⟩
      rw [← hA2, ← hW2] at HP2
      have HC2 := Lib.hid (And.intro hA2 hW2)
      clear hA2 hW2 INV hlt hk
      have hm0 : (0 : Int) ≤ ll := by omega
      have b3 : wr.cell? ⟨w.heap.size + 1, 3, none⟩ = some (.slice lA ll lc) := HU2.out.box.cell 3
      have HN3 : Hid (Calls Tryd.prog 36 #[.pointer (some ⟨q, 0, none⟩), .int .i64 1, .int .i64 ll] wr (Num7 q g s n (pNum s.data.toList 1 ll A2) A2 W2 wr)) := num7_any q g s A2 W2 n 1 ll (by omega) (by omega) _ HP2.out
      unfold Num7 at HN3
      have hv3 := num_le (s := s.data.toList) (lo := 1) (hi := ll) (at_ := A2) (wr := W2)
      obtain ⟨st, hst⟩ : ∃ x, x = outN (pNum s.data.toList 1 ll A2) W2 := ⟨_, rfl⟩
      obtain ⟨A3, hA3⟩ : ∃ x, x = outAt (pNum s.data.toList 1 ll A2) A2 W2 := ⟨_, rfl⟩
      obtain ⟨W3, hW3⟩ : ∃ x, x = outWr (pNum s.data.toList 1 ll A2) W2 := ⟨_, rfl⟩
      rw [← hst, ← hA3, ← hW3] at HN3
      rw [← hst] at hv3
      have HC3 := Lib.hid (And.intro hst (And.intro hA3 hW3))
      clear hst hA3 hW3
      go_wp2_with fail
      refine HN3.out.mono ?_
      rintro _ w3 ⟨rfl, p3, k3⟩
      have hu3 := HU2.out.call k3.weak
      have e0 : w3.cell? ⟨w.heap.size + 1, 0, none⟩ = some (.int .i64 0) := hu3.box.cell 0
      have f0 : w3.frozen? ⟨w.heap.size + 1, 0, none⟩ = false := hu3.box.free 0
      have kS := Set1.set (w.heap.size + 1) 0 w3 (.int .i64 st)
      have HG3 := HG.out
      have HU3 := Lib.hid (hu3.put (st' := st) kS (hu3.box.store 0 _))
      have HP3 := Lib.hid (p3.set kS (by omega) (by omega))
      have HR3 := Lib.hid ((HR2.out.keep isI64_kept (fun b h1 h2 => far_of HG.out k3.weak b (by omega) h2) k3.size).keep isI64_kept (fun b h1 _ => kS.block b (by omega)) (by rw [kS.size]; exact Nat.le_refl _))
      obtain ⟨V3, hV3⟩ : ∃ W, W = w3.setCell ⟨w.heap.size + 1, 0, none⟩ (.int .i64 (st : Int)) := ⟨_, rfl⟩
      rw [← hV3] at HU3 HP3 HR3
      have HV3 := Lib.hid hV3
      clear hV3 kS hu3 p3 k3 b3
      go_upto_region 8 with fail
      rw [← HV3.out]
      have hn4 := num_le (s := s.data.toList) (lo := 0) (hi := 1099511627776) (at_ := A3) (wr := W3)
      have HN4 : Hid (Calls Tryd.prog 36 #[.pointer (some ⟨q, 0, none⟩), .int .i64 0, .int .i64 1099511627776] V3 (Num7 q g s n (pNum s.data.toList 0 1099511627776 A3) A3 W3 V3)) := num7_any q g s A3 W3 n 0 1099511627776 (by omega) (by omega) _ HP3.out
      unfold Num7 at HN4
      obtain ⟨cl, hv⟩ : ∃ x, x = outN (pNum s.data.toList 0 1099511627776 A3) W3 := ⟨_, rfl⟩
      obtain ⟨A4, hA⟩ : ∃ x, x = outAt (pNum s.data.toList 0 1099511627776 A3) A3 W3 := ⟨_, rfl⟩
      obtain ⟨W4, hW⟩ : ∃ x, x = outWr (pNum s.data.toList 0 1099511627776 A3) W3 := ⟨_, rfl⟩
      rw [← hv, ← hA, ← hW] at HN4
      rw [← hv] at hn4
      have HC4 := Lib.hid (And.intro hv (And.intro hA hW))
      clear hv hA hW
      go_wp2_with fail
      refine HN4.out.mono ?_
      rintro _ w4 ⟨rfl, p4, k4⟩
      have hu4 := HU3.out.call k4.weak
      have e4 : w4.cell? ⟨w.heap.size + 1, 1, none⟩ = some (.int .i64 0) := hu4.box.cell 1
      have f4 : w4.frozen? ⟨w.heap.size + 1, 1, none⟩ = false := hu4.box.free 1
      have kS := Set1.set (w.heap.size + 1) 1 w4 (.int .i64 cl)
      have HU4 := Lib.hid (hu4.put (cl' := cl) kS (hu4.box.store 1 _))
      have HP4 := Lib.hid (p4.set kS (by omega) (by omega))
      have HR4 := Lib.hid ((HR3.out.keep isI64_kept (fun b h1 h2 => far_of HG.out k4.weak b (by omega) h2) k4.size).keep isI64_kept (fun b h1 _ => kS.block b (by omega)) (by rw [kS.size]; exact Nat.le_refl _))
      obtain ⟨V4, hV4⟩ : ∃ W, W = w4.setCell ⟨w.heap.size + 1, 1, none⟩ (.int .i64 (cl : Int)) := ⟨_, rfl⟩
      rw [← hV4] at HU4 HP4 HR4
      have HV4 := Lib.hid hV4
      clear hV4 kS hu4 p4 k4
      go_upto_region 9 with fail
      rw [← HV4.out]
      have hn5 := num_le (s := s.data.toList) (lo := 1) (hi := 1000) (at_ := A4) (wr := W4)
      have HN5 : Hid (Calls Tryd.prog 36 #[.pointer (some ⟨q, 0, none⟩), .int .i64 1, .int .i64 1000] V4 (Num7 q g s n (pNum s.data.toList 1 1000 A4) A4 W4 V4)) := num7_any q g s A4 W4 n 1 1000 (by omega) (by omega) _ HP4.out
      unfold Num7 at HN5
      obtain ⟨tr, hv⟩ : ∃ x, x = outN (pNum s.data.toList 1 1000 A4) W4 := ⟨_, rfl⟩
      obtain ⟨A5, hA⟩ : ∃ x, x = outAt (pNum s.data.toList 1 1000 A4) A4 W4 := ⟨_, rfl⟩
      obtain ⟨W5, hW⟩ : ∃ x, x = outWr (pNum s.data.toList 1 1000 A4) W4 := ⟨_, rfl⟩
      rw [← hv, ← hA, ← hW] at HN5
      rw [← hv] at hn5
      have HC5 := Lib.hid (And.intro hv (And.intro hA hW))
      clear hv hA hW
      go_wp2_with fail
      refine HN5.out.mono ?_
      rintro _ w5 ⟨rfl, p5, k5⟩
      have hu5 := HU4.out.call k5.weak
      have e5 : w5.cell? ⟨w.heap.size + 1, 2, none⟩ = some (.int .i64 0) := hu5.box.cell 2
      have f5 : w5.frozen? ⟨w.heap.size + 1, 2, none⟩ = false := hu5.box.free 2
      have kS := Set1.set (w.heap.size + 1) 2 w5 (.int .i64 tr)
      have HU5 := Lib.hid (hu5.put (tr' := tr) kS (hu5.box.store 2 _))
      have HP5 := Lib.hid (p5.set kS (by omega) (by omega))
      have HR5 := Lib.hid ((HR4.out.keep isI64_kept (fun b h1 h2 => far_of HG.out k5.weak b (by omega) h2) k5.size).keep isI64_kept (fun b h1 _ => kS.block b (by omega)) (by rw [kS.size]; exact Nat.le_refl _))
      obtain ⟨V5, hV5⟩ : ∃ W, W = w5.setCell ⟨w.heap.size + 1, 2, none⟩ (.int .i64 (tr : Int)) := ⟨_, rfl⟩
      rw [← hV5] at HU5 HP5 HR5
      have HV5 := Lib.hid hV5
      clear hV5 kS hu5 p5 k5
      go_upto_region 10 with fail
      rw [← HV5.out]
      have hn6 := num_le (s := s.data.toList) (lo := 0) (hi := 6) (at_ := A5) (wr := W5)
      have HN6 : Hid (Calls Tryd.prog 36 #[.pointer (some ⟨q, 0, none⟩), .int .i64 0, .int .i64 6] V5 (Num7 q g s n (pNum s.data.toList 0 6 A5) A5 W5 V5)) := num7_any q g s A5 W5 n 0 6 (by omega) (by omega) _ HP5.out
      unfold Num7 at HN6
      obtain ⟨M6, hv⟩ : ∃ x, x = outN (pNum s.data.toList 0 6 A5) W5 := ⟨_, rfl⟩
      obtain ⟨A6, hA⟩ : ∃ x, x = outAt (pNum s.data.toList 0 6 A5) A5 W5 := ⟨_, rfl⟩
      obtain ⟨W6, hW⟩ : ∃ x, x = outWr (pNum s.data.toList 0 6 A5) W5 := ⟨_, rfl⟩
      rw [← hv, ← hA, ← hW] at HN6
      rw [← hv] at hn6
      have HC6 := Lib.hid (And.intro hv (And.intro hA hW))
      clear hv hA hW
      go_wp2_with fail
      refine HN6.out.mono ?_
      rintro _ w6 ⟨rfl, p6, k6⟩
      have HA6 : Hid (A6 ≤ s.data.toList.length) := p6.rd.2.1
      have HH6 : Hid (HS w q g s A6 W6 0 n st cl tr ini (.slice lA ll lc) xs [] (.slice none 0 0) [] w6) := by
        have h0 := rep_zero (pTh s.data.toList) A6 W6
        refine ⟨HU5.out.call k6.weak, HR5.out.keep isI64_kept (fun b h1 h2 => far_of HG.out k6.weak b (by omega) h2) k6.size, RI.start _ _ _ _ _ (Nat.le_trans HR5.out.bs k6.size), by rw [h0.1, h0.2]; exact p6, rfl, fun _ ys p h => ?_⟩
        cases h
        exact All2.nil _
      clear p6 k6
      go_wp2_with fail
      go_loopw [39] (fun i wr => ∃ (k m : Nat) (thr : List (List (List St))) (tv : Value) (ys : List Value), k ≤ M6 ∧ i = .int .i64 k ∧ Hid (HS w q g s A6 W6 k m st cl tr ini (.slice lA ll lc) xs thr tv ys wr)) (fun i _ => M6 - (intOf i).toNat)
      case atStart => exact ⟨0, n, [], _, [], by omega, by go_num, HH6.out⟩
      case round =>
        obtain ⟨k, m, thr, tv, ys, hk, rfl, INT⟩ := hrel
        obtain ⟨tA, tl, tc, rfl⟩ := own_form INT.out.rt.own
        by_cases hlt : k < M6
        · have HTH := Lib.hid (thread7_any q g s _ _ m wr.drew INT.out.pr.drew (HT.out.kp (INT.out.ub.kp.trans2 (kp_drew g (some q) wr))))
          have e4 : wr.cell? ⟨w.heap.size + 1, 4, none⟩ = some (.slice tA tl tc) := INT.out.ub.box.cell 4
          have OWN := Lib.hid INT.out.rt.own
          have hl100 : thr.length ≤ 100000 := by have := INT.out.len; omega
          have HZ := Lib.hid INT.out.ub.box.lt
          go_wp2_with fail
          go_region_law
            (first
              | (refine append_one_step (ops := _) (K := _) (Q := _) (E := _) (wx := w5) (v := .slice C N5 c5) Tryd.underlying27 txs_info HR5.out.own HR5.out.bs hl100 rfl (.tmp 42) (.tmp 45) rfl rfl rfl rfl ?_
                 intro gg cap w9 hown hgrow hat hgl; have HU9 := Lib.hid (HU5.out.grow hgrow (fun r hr => (HR5.out.own.lt r hr).1)); have e9 : w9.cell? ⟨w.heap.size + 1, 4, none⟩ = some (.slice tA tl tc) := HU9.out.box.cell 4; have f9 : w9.frozen? ⟨w.heap.size + 1, 4, none⟩ = false := HU9.out.box.free 4)
              | (rw [if_pos (by rfl)]; go_simp; refine HTH.out.mono ?_; rintro _ w5 ⟨C, c5, x5, m5, rfl, hS5, hl5, hX5, hp5, hk5⟩; have HK5 := Lib.hid ((kp_drew g (some q) wr).trans2 hk5); have HU5 := Lib.hid (INT.out.ub.call HK5.out); have HR5 := Lib.hid (INT.out.rt.keep (isThR_kept _) (fun b h1 h2 => far_of HG.out HK5.out b (by omega) h2) HK5.out.size); have e5 : w5.cell? ⟨w.heap.size + 1, 4, none⟩ = some (.slice tA tl tc) := HU5.out.box.cell 4; have HZ5 : w.heap.size + 1 < w5.heap.size := HU5.out.box.lt; obtain ⟨N5, hN5⟩ : ∃ N5, N5 = x5.length := ⟨_, rfl⟩; rw [← hN5]; have HN5 := Lib.hid hN5; clear hN5))
          all_goals
            rw [HN5.out] at hown
            have HNX := Lib.hid (INT.out.next HA6.out rfl hS5 hl5 hX5 hp5 HK5.out hown hgrow hat)
            clear hown hgrow hat hgl hS5 hl5 hX5 hp5 hk5 HTH e4 e5 e9 f9 HU9 HR5 HU5
            go_wp2_with fail
            go_roundw
            case rel => exact ⟨k + 1, m5, _, _, _, by omega, by go_num, HNX.out⟩
            case measure => simp [intOf]; omega
        · obtain rfl : k = M6 := by omega
          have hbx := INT.out.ub.box
          have hrs := INT.out.ub.res
          have b0 := hbx.cell 0
          have b1 := hbx.cell 1
          have b2 := hbx.cell 2
          have b3 := hbx.cell 3
          have b4 := hbx.cell 4
          have a0 := hrs.cell 0
          have a1 := hrs.cell 1
          have a2 := hrs.cell 2
          have a3 := hrs.cell 3
          have a4 := hrs.cell 4
          simp at b0 b1 b2 b3 b4 a0 a1 a2 a3 a4
          have fr : ∀ j, wr.frozen? ⟨w.heap.size, j, none⟩ = false := hrs.free
          have z1 := hbx.lt
          clear hbx hrs
          go_wp2_with fail
          have hO := INT.out.ub.res.put5 (.int .i64 st) (.int .i64 cl) (.int .i64 tr) (.slice lA ll lc) (.slice tA tl tc)
          have hS := Set1.five w.heap.size wr (.int .i64 st) (.int .i64 cl) (.int .i64 tr) (.slice lA ll lc) (.slice tA tl tc)
          generalize (((((wr.setCell ⟨w.heap.size, 0, none⟩ (.int .i64 st)).setCell ⟨w.heap.size, 1, none⟩ (.int .i64 cl)).setCell ⟨w.heap.size, 2, none⟩ (.int .i64 tr)).setCell ⟨w.heap.size, 3, none⟩ (.slice lA ll lc)).setCell ⟨w.heap.size, 4, none⟩ (.slice tA tl tc)) = W' at hO hS ⊢
          have hG := HG.out
          have hP := INT.out.pr.set hS (by omega) (by omega)
          have hK := hS.kp INT.out.ub.kp (Nat.le_refl _)
          have hRI := INT.out.ri.keep isI64_kept (w5 := W') (fun b h1 _ => hS.block b (by omega)) (by rw [hS.size]; exact Nat.le_refl _)
          have hRT := INT.out.rt.keep (isThR_kept _) (w5 := W') (fun b h1 _ => hS.block b (by omega)) (by rw [hS.size]; exact Nat.le_refl _)
          have hC := Chain.fin (s := s.data.toList) ⟨HC1.out.1, HC1.out.2.1, HC1.out.2.2, HC2.out.1, HC2.out.2, HC3.out.2.1, HC3.out.2.2, HC4.out.2.1, HC4.out.2.2, HC5.out.2.1, HC5.out.2.2, HC6.out.1, HC6.out.2.1, HC6.out.2.2, rfl, rfl⟩
          rw [← hC.1, ← hC.2.1] at hP
          have e0 := hO.cell 0
          have e1 := hO.cell 1
          have e2 := hO.cell 2
          have e3 := hO.cell 3
          have e4 := hO.cell 4
          simp at e0 e1 e2 e3 e4
          obtain ⟨c9, hsv, hini, hlo⟩ := hRI.ints (by have := HLEN.out; omega)
          obtain ⟨T9, c8, hst9, hthr⟩ := hRT.thr
          injection hst9 with t1 t2 t3
          subst t1 t2 t3
          have hll : ll = ini.length := HLEN.out.symm
          have hat : SuAt W' w.heap.size W'.heap.size 14 lA tA ⟨st, cl, tr, ini, thr⟩ := ⟨hini, hthr.wide (by omega) (Nat.le_refl _), by have := INT.out.len; show thr.length ≤ _; omega, by show _ ≤ (st : Int); omega, by show (st : Int) < _; omega, by show _ ≤ (cl : Int); omega, by show (cl : Int) < _; omega, by show _ ≤ (tr : Int); omega, by show (tr : Int) < _; omega⟩
          refine bodyPost_ret (v := .agg #[.int .i64 st, .int .i64 cl, .int .i64 tr, .slice lA ll lc, .slice tA thr.length tc]) (by simp [results, Tryd.results20, go_sem, e0, e1, e2, e3, e4]) rfl ⟨lA, tA, lc, tc, ⟨st, cl, tr, ini, thr⟩, m, by rw [hll], hat, fun p hp => by have := hlo p hp; omega, by have := INT.out.len; show thr.length ≤ 6; omega, fun y p hy => ?_, hP, hK⟩
          obtain ⟨⟨g1, g2⟩, g3, g4, g5, g6, g7⟩ := hC.2.2 y p hy
          refine ⟨by rw [g3, ← HC3.out.1], by rw [g4, ← HC4.out.1], by rw [g5, ← HC5.out.1], ?_, INT.out.val g6 _ _ g7⟩
          have := HVAL.out g1 _ _ g2
          exact this.eq
end Go.Proofs.YtpgkhodofhnpnaaDoor
