/-
  CONTRACTS OF seesawref05's none and shaped (the document's own answers of layer 5): whether there is no expression; whether all statements of all blocks are shaped; the memory that was there stays as it was. Conditions: as they stand.
-/
import Derived.Test.YtnkdaehmdcpafaaDoorCm
import Derived.Test.YtnkdaehmdcpafaaDoorZa
import Derived.Deep.DeepCutAuto
import Derived.Deep.CutBlock
namespace Go.Proofs.YtnkdaehmdcpafaaDoor
open Go.RowKit
set_option linter.unusedVariables false
set_option maxRecDepth 100000 in
theorem rnone_any (d : Nat) (e : Ex) (v : Value) (lo hi : Nat) (w : World) (h : At w lo hi d v e) :
    Calls Tryd.prog 63 #[v] w fun r w' => r = .returned (.bool (noneE e)) ∧ Below w.heap.size w w' := by
  obtain ⟨d, rfl⟩ : ∃ q, d = q + 1 := by
    cases d with
    | zero => exact h.elim
    | succ q => exact ⟨q, rfl⟩
  obtain ⟨op, n, args⟩ := e
  obtain ⟨q1, q2, q3, q4, A, c, rfl, hk⟩ := h.open_
  have HB0 := Lib.hid (boxed_below w (.int .u8 op) (.int .i64 n) (.slice A args.length c))
  clear hk h
  by_cases h0 : op = 0
  · have t0 : ((op : Int) == 0) = true := by simp; omega
    by_cases h1 : n = 0
    · have HV : Hid (noneE (.node op n args) = ((args.length : Int) == 0)) := by
        show noneE _ = _
        rw [show noneE (.node op n args) = (decide (op = 0) && (decide (n = 0) && decide (args.length = 0))) from rfl, decide_eq_true h0, decide_eq_true h1, Bool.true_and, Bool.true_and]
        by_cases hl : args.length = 0
        · rw [decide_eq_true hl]; symm; exact beq_iff_eq.2 (by omega)
        · rw [decide_eq_false hl]; symm; exact beq_eq_false_iff_ne.2 (by omega)
      have t1 : (n == 0) = true := by simp [h1]
      clear h0 h1
      go_enter Tryd.func63, Tryd.ntmps63
      go_wp2_with fail
      go_ret
      exact ⟨by rw [HV.out]; rfl, HB0.out⟩
    · have HV : Hid (noneE (.node op n args) = false) := by
        show noneE _ = _
        rw [show noneE (.node op n args) = (decide (op = 0) && (decide (n = 0) && decide (args.length = 0))) from rfl, decide_eq_false h1, Bool.false_and, Bool.and_false]
      have t1 : (n == 0) = false := by simp [h1]
      clear h0 h1
      go_enter Tryd.func63, Tryd.ntmps63
      go_wp2_with fail
      go_ret
      exact ⟨by rw [HV.out]; rfl, HB0.out⟩
  · have HV : Hid (noneE (.node op n args) = false) := by
      show noneE _ = _
      rw [show noneE (.node op n args) = (decide (op = 0) && (decide (n = 0) && decide (args.length = 0))) from rfl, decide_eq_false h0, Bool.false_and]
    have t0 : ((op : Int) == 0) = false := by simp; omega
    clear h0
    go_enter Tryd.func63, Tryd.ntmps63
    go_wp2_with fail
    go_ret
    exact ⟨by rw [HV.out]; rfl, HB0.out⟩
def mayX (d : Nat) (e : Ex) (n : Int) : Bool := wholeF 6 e && belowF d e n
/-- A statement's own shape, by what its Kind asks; what its expressions and its blocks come to. -/
def shpQ (q : Asks) (t : Int) (yl el : Nat) (ba bb ry re : Bool) : Bool :=
  decide (0 ≤ t) && (decide (t ≤ 7) && ((q.to || decide (t ≤ 0)) && ((q.body || decide (yl = 0)) && ((q.els || decide (el = 0)) && (ba && (bb && (ry && re)))))))
theorem shp_neg {q : Asks} {t : Int} {yl el : Nat} {ba bb ry re : Bool} (h : t < 0) : shpQ q t yl el ba bb ry re = false := by
  unfold shpQ
  rw [decide_eq_false (by omega), Bool.false_and]
theorem shp_big {q : Asks} {t : Int} {yl el : Nat} {ba bb ry re : Bool} (h : 7 < t) : shpQ q t yl el ba bb ry re = false := by
  unfold shpQ
  rw [decide_eq_false (p := t ≤ 7) (by omega), Bool.false_and, Bool.and_false]
theorem shp_to {a b y e : Bool} {t : Int} {yl el : Nat} {ba bb ry re : Bool} (h : 0 < t) : shpQ ⟨false, a, b, y, e⟩ t yl el ba bb ry re = false := by
  unfold shpQ
  rw [decide_eq_false (p := t ≤ 0) (by omega)]
  simp
theorem shp_body {x a b e : Bool} {t : Int} {yl el : Nat} {ba bb ry re : Bool} (h : 0 < yl) : shpQ ⟨x, a, b, false, e⟩ t yl el ba bb ry re = false := by
  unfold shpQ
  rw [decide_eq_false (p := yl = 0) (by omega)]
  simp
theorem shp_els {x a b y : Bool} {t : Int} {yl el : Nat} {ba bb ry re : Bool} (h : 0 < el) : shpQ ⟨x, a, b, y, false⟩ t yl el ba bb ry re = false := by
  unfold shpQ
  rw [decide_eq_false (p := el = 0) (by omega)]
  simp
theorem shp_ok {q : Asks} {t : Int} {yl el : Nat} (h0 : 0 ≤ t) (h1 : t ≤ 7) (h2 : q.to = true ∨ t ≤ 0) (h3 : q.body = true ∨ yl = 0) (h4 : q.els = true ∨ el = 0) : shpQ q t yl el true true true true = true := by
  unfold shpQ
  rw [decide_eq_true h0, decide_eq_true h1]
  have e2 : (q.to || decide (t ≤ 0)) = true := by rcases h2 with h | h <;> simp [h]
  have e3 : (q.body || decide (yl = 0)) = true := by rcases h3 with h | h <;> simp [h]
  have e4 : (q.els || decide (el = 0)) = true := by rcases h4 with h | h <;> simp [h]
  rw [e2, e3, e4]
  rfl
def shpS : Nat → Int → St → Bool
  | 0, _, _ => false
  | d + 1, n, .node k t a b y e => if k < 1 ∨ 8 < k then false else shpQ (ask k) t y.length e.length (if (ask k).a then mayX d a n else noneE a) (if (ask k).b then mayX d b n else noneE b) (y.all (shpS d n)) (e.all (shpS d n))
theorem all_take (f : St → Bool) (l : List St) (k : Nat) (h : k < l.length) (h1 : (l.take k).all f = true) (h2 : f l[k] = true) : (l.take (k + 1)).all f = true := by
  rw [List.take_succ_eq_append_getElem h, List.all_append, h1]
  simp [h2]
theorem all_not (f : St → Bool) (l : List St) (k : Nat) (h : k < l.length) (h2 : f l[k] = false) : l.all f = false := by
  cases hc : l.all f with
  | false => rfl
  | true => rw [List.all_eq_true.1 hc _ (List.getElem_mem h)] at h2; cases h2
set_option maxRecDepth 100000 in
set_option maxHeartbeats 8000000 in
theorem rshaped_of (d : Nat) (n : Int) (n0 : -9223372036854775808 ≤ n) (n1 : n < 9223372036854775808) : ∀ (A : Option Addr) (c : Nat) (tx : List St) (lo hi : Nat) (w : World), SKids w lo hi d A tx → hi ≤ w.heap.size → tx.length ≤ 9223372036854775807 →
    Calls Tryd.prog 54 #[.slice A tx.length c, .int .i64 n] w fun z w' => z = .returned (.bool (tx.all (shpS d n))) ∧ Below w.heap.size w w' := by
  induction d using Nat.strongRecOn with
  | _ d ih =>
  intro A c tx lo hi w hk hhi hl
  have HK := Lib.hid hk
  have IH := Lib.hid ih
  clear hk ih
  go_enter Tryd.func54, Tryd.ntmps54
  go_wp2_with fail
  go_loopw [5] (fun i wr => ∃ k : Nat, k ≤ tx.length ∧ i = .int .i64 k ∧ Hid ((tx.take k).all (shpS d n) = true) ∧ Below w.heap.size w wr) (fun i _ => tx.length - (intOf i).toNat)
  case atStart => exact ⟨0, by omega, rfl, rfl, Below.refl _ _⟩
  case round =>
    obtain ⟨k, hk, rfl, hv, hb⟩ := hrel
    by_cases hlt : k < tx.length
    · have i1 : (k : Int) < (tx.length : Int) := by omega
      have i0 : (0 : Int) ≤ (k : Int) := by omega
      have HN := Lib.hid (all_not (shpS d n) tx k hlt)
      have HP := Lib.hid (all_take (shpS d n) tx k hlt hv.out)
      obtain ⟨p, r, rfl, m1, m2, ht, hs⟩ := HK.out.below hb (by omega) k hlt
      obtain ⟨q, rfl⟩ := hs.pos
      obtain ⟨s, hsx⟩ : ∃ s, s = tx[k] := ⟨_, rfl⟩
      rw [← hsx] at HN HP hs
      obtain ⟨kk, t, a, b, y, e⟩ := s
      obtain ⟨⟨e1, e2, e3, e4⟩, ⟨q1, q2, q3, q4, q5⟩, ha, hbb, hy, he⟩ := hs.open_
      have hzr := hb.size
      have HY := Lib.hid (fun W' (h' : Below wr.heap.size wr W') (c : Nat) => IH.out q (by omega) r.yA c y lo hi W' (hy.below h' (by omega)) (by have := h'.size; omega) q4)
      have HE := Lib.hid (fun W' (h' : Below wr.heap.size wr W') (c : Nat) => IH.out q (by omega) r.eA c e lo hi W' (he.below h' (by omega)) (by have := h'.size; omega) q5)
      have HAm := Lib.hid (fun W' (h' : Below wr.heap.size wr W') => rMay_any q a r.va lo hi n n0 n1 W' (ha.below h' (by omega)) (by have := h'.size; omega))
      have HBm := Lib.hid (fun W' (h' : Below wr.heap.size wr W') => rMay_any q b r.vb lo hi n n0 n1 W' (hbb.below h' (by omega)) (by have := h'.size; omega))
      have HAn := Lib.hid (fun W' (h' : Below wr.heap.size wr W') => rnone_any q a r.va lo hi W' (ha.below h' (by omega)))
      have HBn := Lib.hid (fun W' (h' : Below wr.heap.size wr W') => rnone_any q b r.vb lo hi W' (hbb.below h' (by omega)))
      have hV : shpS (q + 1) n (.node kk t a b y e) = if kk < 1 ∨ 8 < kk then false else shpQ (ask kk) t y.length e.length (if (ask kk).a then mayX q a n else noneE a) (if (ask kk).b then mayX q b n else noneE b) (y.all (shpS q n)) (e.all (shpS q n)) := rfl
      rw [show mayX q a n = (wholeF 6 a && belowF q a n) from rfl, show mayX q b n = (wholeF 6 b && belowF q b n) from rfl] at hV
      obtain ⟨ma, hma⟩ : ∃ x, x = (wholeF 6 a && belowF q a n) := ⟨_, rfl⟩
      obtain ⟨mb, hmb⟩ : ∃ x, x = (wholeF 6 b && belowF q b n) := ⟨_, rfl⟩
      obtain ⟨na, hna⟩ : ∃ x, x = noneE a := ⟨_, rfl⟩
      obtain ⟨nb, hnb⟩ : ∃ x, x = noneE b := ⟨_, rfl⟩
      obtain ⟨vy, hvy⟩ : ∃ x, x = y.all (shpS q n) := ⟨_, rfl⟩
      obtain ⟨ve, hve⟩ : ∃ x, x = e.all (shpS q n) := ⟨_, rfl⟩
      rw [← hma, ← hmb, ← hna, ← hnb, ← hvy, ← hve] at hV
      rw [← hma] at HAm
      rw [← hmb] at HBm
      rw [← hna] at HAn
      rw [← hnb] at HBn
      rw [← hvy] at HY
      rw [← hve] at HE
      clear hma hmb hna hnb hvy hve
      rw [← e3] at HY hV q4
      rw [← e4] at HE hV q5
      have tn := Ten.new wr r
      have b0 := ten_below wr r
      have z0 : wr.heap.size < (wr.alloc (.cells #[.int .u8 r.k, .int .i64 r.t, .int .u8 r.ao, .int .i64 r.an, .slice r.aA r.al r.ac, .int .u8 r.bo, .int .i64 r.bn, .slice r.bA r.bl r.bc, .slice r.yA r.yl r.yc, .slice r.eA r.el r.ec] 39)).heap.size := by simp
      have HT := Lib.hid (fun W' (h' : Below (wr.alloc (.cells #[.int .u8 r.k, .int .i64 r.t, .int .u8 r.ao, .int .i64 r.an, .slice r.aA r.al r.ac, .int .u8 r.bo, .int .i64 r.bn, .slice r.bA r.bl r.bc, .slice r.yA r.yl r.yc, .slice r.eA r.el r.ec] 39)).heap.size (wr.alloc (.cells #[.int .u8 r.k, .int .i64 r.t, .int .u8 r.ao, .int .i64 r.an, .slice r.aA r.al r.ac, .int .u8 r.bo, .int .i64 r.bn, .slice r.bA r.bl r.bc, .slice r.yA r.yl r.yc, .slice r.eA r.el r.ec] 39)) W') => tn.below h' z0)
      have g0 := ht.c0
      have g1 := ht.c1
      have g2 := ht.c2
      have g3 := ht.c3
      have g4 := ht.c4
      have g5 := ht.c5
      have g6 := ht.c6
      have g7 := ht.c7
      have g8 := ht.c8
      have g9 := ht.c9
      obtain ⟨rk, rt, rao, ran, raA, ral, rac, rbo, rbn, rbA, rbl, rbc, ryA, ryl, ryc, reA, rel, r9c⟩ := r
      dsimp only [Raw.va, Raw.vb] at *
      subst e1 e2
      have hB := Lib.hid hb
      have HB0 := Lib.hid b0
      clear ht hs hsx hy he ha hbb m1 m2 hzr hb tn z0 b0 hv hk e3 e4
      have hcase : rk = 1 ∨ rk = 2 ∨ rk = 3 ∨ rk = 4 ∨ rk = 5 ∨ rk = 6 ∨ rk = 7 ∨ rk = 8 ∨ (rk < 1 ∨ 8 < rk) := by omega
      rcases hcase with rfl | rfl | rfl | rfl | rfl | rfl | rfl | rfl | hno
      · have HX : Hid (shpS (q + 1) n (.node 1 rt a b y e) = shpQ ⟨true, true, false, false, false⟩ rt ryl rel ma nb vy ve) := hV
        clear hV HAn HBm
        go_upto_region 22 with fail
        obtain ⟨W, hW⟩ : ∃ W, W = wr.alloc (.cells #[.int .u8 1, .int .i64 rt, .int .u8 rao, .int .i64 ran, .slice raA ral rac, .int .u8 rbo, .int .i64 rbn, .slice rbA rbl rbc, .slice ryA ryl ryc, .slice reA rel r9c] 39) := ⟨_, rfl⟩
        have HT' : Hid (∀ W', Below W.heap.size W W' → Ten W' ⟨wr.heap.size, 0, none⟩ ⟨1, rt, rao, ran, raA, ral, rac, rbo, rbn, rbA, rbl, rbc, ryA, ryl, ryc, reA, rel, r9c⟩) := by rw [hW]; exact HT
        have HB1 : Hid (Below wr.heap.size wr W) := by rw [hW]; exact HB0
        rw [← hW]
        clear hW HT HB0 g0 g1 g2 g3 g4 g5 g6 g7 g8 g9
        have t := HT'.out W (Below.refl _ _)
        have f1 := t.c1
        have f2 := t.c2
        have f3 := t.c3
        have f4 := t.c4
        have f8 := t.c8
        have f9 := t.c9
        dsimp only at f1 f2 f3 f4 f8 f9
        rw [Nat.zero_add] at f1 f2 f3 f4 f8 f9
        clear t
        by_cases c1 : rt < 0
        · go_wp2_with fail
          go_ret
          exact ⟨by rw [HN.out (HX.out.trans (shp_neg c1))]; rfl, hB.out.trans ((HB1.out).mono hB.out.size)⟩
        by_cases c2 : 7 < rt
        · go_wp2_with fail
          go_ret
          exact ⟨by rw [HN.out (HX.out.trans (shp_big c2))]; rfl, hB.out.trans ((HB1.out).mono hB.out.size)⟩
        by_cases c4 : 0 < ryl
        · go_wp2_with fail
          go_ret
          exact ⟨by rw [HN.out (HX.out.trans (shp_body c4))]; rfl, hB.out.trans ((HB1.out).mono hB.out.size)⟩
        by_cases c5 : 0 < rel
        · go_wp2_with fail
          go_ret
          exact ⟨by rw [HN.out (HX.out.trans (shp_els c5))]; rfl, hB.out.trans ((HB1.out).mono hB.out.size)⟩
        go_wp2_with fail
        refine (HAm.out W HB1.out).mono ?_
        rintro _ w5 ⟨rfl, b5⟩
        have H5 := Lib.hid (HB1.out.trans (b5.mono HB1.out.size))
        have t := HT'.out w5 b5
        have f5 := t.c5
        have f6 := t.c6
        have f7 := t.c7
        dsimp only at f5 f6 f7
        rw [Nat.zero_add] at f5 f6 f7
        clear t f1 f2 f3 f4 f8 f9
        cases ma with
        | false =>
          go_wp2_with fail
          go_ret
          exact ⟨by rw [HN.out (by rw [HX.out]; simp [shpQ])]; rfl, hB.out.trans ((H5.out).mono hB.out.size)⟩
        | true =>
          go_wp2_with fail
          refine (HBn.out w5 H5.out).mono ?_
          rintro _ w6 ⟨rfl, b6⟩
          have H6 := Lib.hid (H5.out.trans (b6.mono H5.out.size))
          have t := HT'.out w6 (b5.trans (b6.mono b5.size))
          have f8 := t.c8
          dsimp only at f8
          rw [Nat.zero_add] at f8
          clear t f5 f6 f7
          cases nb with
          | false =>
            go_wp2_with fail
            go_ret
            exact ⟨by rw [HN.out (by rw [HX.out]; simp [shpQ])]; rfl, hB.out.trans ((H6.out).mono hB.out.size)⟩
          | true =>
            go_wp2_with fail
            refine (HY.out w6 H6.out _).mono ?_
            rintro _ w7 ⟨rfl, b7⟩
            have H7 := Lib.hid (H6.out.trans (b7.mono H6.out.size))
            have t := HT'.out w7 ((b5.trans (b6.mono b5.size)).trans (b7.mono (b5.trans (b6.mono b5.size)).size))
            have f9 := t.c9
            dsimp only at f9
            rw [Nat.zero_add] at f9
            clear t f8
            cases vy with
            | false =>
              go_wp2_with fail
              go_ret
              exact ⟨by rw [HN.out (by rw [HX.out]; simp [shpQ])]; rfl, hB.out.trans ((H7.out).mono hB.out.size)⟩
            | true =>
              go_wp2_with fail
              refine (HE.out w7 H7.out _).mono ?_
              rintro _ w8 ⟨rfl, b8⟩
              have H8 := Lib.hid (H7.out.trans (b8.mono H7.out.size))
              cases ve with
              | false =>
                go_wp2_with fail
                go_ret
                exact ⟨by rw [HN.out (by rw [HX.out]; simp [shpQ])]; rfl, hB.out.trans ((H8.out).mono hB.out.size)⟩
              | true =>
                have HQ := Lib.hid (HP.out (HX.out.trans (shp_ok (by omega) (by omega) (.inl rfl) (.inr (by omega)) (.inr (by omega)))))
                go_wp2_with fail
                go_roundw
                case rel => exact ⟨k + 1, by omega, by go_num, HQ.out, hB.out.trans (H8.out.mono hB.out.size)⟩
                case measure => simp [intOf]; omega
      · have HX : Hid (shpS (q + 1) n (.node 2 rt a b y e) = shpQ ⟨true, true, false, false, false⟩ rt ryl rel ma nb vy ve) := hV
        clear hV HAn HBm
        go_upto_region 22 with fail
        obtain ⟨W, hW⟩ : ∃ W, W = wr.alloc (.cells #[.int .u8 2, .int .i64 rt, .int .u8 rao, .int .i64 ran, .slice raA ral rac, .int .u8 rbo, .int .i64 rbn, .slice rbA rbl rbc, .slice ryA ryl ryc, .slice reA rel r9c] 39) := ⟨_, rfl⟩
        have HT' : Hid (∀ W', Below W.heap.size W W' → Ten W' ⟨wr.heap.size, 0, none⟩ ⟨2, rt, rao, ran, raA, ral, rac, rbo, rbn, rbA, rbl, rbc, ryA, ryl, ryc, reA, rel, r9c⟩) := by rw [hW]; exact HT
        have HB1 : Hid (Below wr.heap.size wr W) := by rw [hW]; exact HB0
        rw [← hW]
        clear hW HT HB0 g0 g1 g2 g3 g4 g5 g6 g7 g8 g9
        have t := HT'.out W (Below.refl _ _)
        have f1 := t.c1
        have f2 := t.c2
        have f3 := t.c3
        have f4 := t.c4
        have f8 := t.c8
        have f9 := t.c9
        dsimp only at f1 f2 f3 f4 f8 f9
        rw [Nat.zero_add] at f1 f2 f3 f4 f8 f9
        clear t
        by_cases c1 : rt < 0
        · go_wp2_with fail
          go_ret
          exact ⟨by rw [HN.out (HX.out.trans (shp_neg c1))]; rfl, hB.out.trans ((HB1.out).mono hB.out.size)⟩
        by_cases c2 : 7 < rt
        · go_wp2_with fail
          go_ret
          exact ⟨by rw [HN.out (HX.out.trans (shp_big c2))]; rfl, hB.out.trans ((HB1.out).mono hB.out.size)⟩
        by_cases c4 : 0 < ryl
        · go_wp2_with fail
          go_ret
          exact ⟨by rw [HN.out (HX.out.trans (shp_body c4))]; rfl, hB.out.trans ((HB1.out).mono hB.out.size)⟩
        by_cases c5 : 0 < rel
        · go_wp2_with fail
          go_ret
          exact ⟨by rw [HN.out (HX.out.trans (shp_els c5))]; rfl, hB.out.trans ((HB1.out).mono hB.out.size)⟩
        go_wp2_with fail
        refine (HAm.out W HB1.out).mono ?_
        rintro _ w5 ⟨rfl, b5⟩
        have H5 := Lib.hid (HB1.out.trans (b5.mono HB1.out.size))
        have t := HT'.out w5 b5
        have f5 := t.c5
        have f6 := t.c6
        have f7 := t.c7
        dsimp only at f5 f6 f7
        rw [Nat.zero_add] at f5 f6 f7
        clear t f1 f2 f3 f4 f8 f9
        cases ma with
        | false =>
          go_wp2_with fail
          go_ret
          exact ⟨by rw [HN.out (by rw [HX.out]; simp [shpQ])]; rfl, hB.out.trans ((H5.out).mono hB.out.size)⟩
        | true =>
          go_wp2_with fail
          refine (HBn.out w5 H5.out).mono ?_
          rintro _ w6 ⟨rfl, b6⟩
          have H6 := Lib.hid (H5.out.trans (b6.mono H5.out.size))
          have t := HT'.out w6 (b5.trans (b6.mono b5.size))
          have f8 := t.c8
          dsimp only at f8
          rw [Nat.zero_add] at f8
          clear t f5 f6 f7
          cases nb with
          | false =>
            go_wp2_with fail
            go_ret
            exact ⟨by rw [HN.out (by rw [HX.out]; simp [shpQ])]; rfl, hB.out.trans ((H6.out).mono hB.out.size)⟩
          | true =>
            go_wp2_with fail
            refine (HY.out w6 H6.out _).mono ?_
            rintro _ w7 ⟨rfl, b7⟩
            have H7 := Lib.hid (H6.out.trans (b7.mono H6.out.size))
            have t := HT'.out w7 ((b5.trans (b6.mono b5.size)).trans (b7.mono (b5.trans (b6.mono b5.size)).size))
            have f9 := t.c9
            dsimp only at f9
            rw [Nat.zero_add] at f9
            clear t f8
            cases vy with
            | false =>
              go_wp2_with fail
              go_ret
              exact ⟨by rw [HN.out (by rw [HX.out]; simp [shpQ])]; rfl, hB.out.trans ((H7.out).mono hB.out.size)⟩
            | true =>
              go_wp2_with fail
              refine (HE.out w7 H7.out _).mono ?_
              rintro _ w8 ⟨rfl, b8⟩
              have H8 := Lib.hid (H7.out.trans (b8.mono H7.out.size))
              cases ve with
              | false =>
                go_wp2_with fail
                go_ret
                exact ⟨by rw [HN.out (by rw [HX.out]; simp [shpQ])]; rfl, hB.out.trans ((H8.out).mono hB.out.size)⟩
              | true =>
                have HQ := Lib.hid (HP.out (HX.out.trans (shp_ok (by omega) (by omega) (.inl rfl) (.inr (by omega)) (.inr (by omega)))))
                go_wp2_with fail
                go_roundw
                case rel => exact ⟨k + 1, by omega, by go_num, HQ.out, hB.out.trans (H8.out.mono hB.out.size)⟩
                case measure => simp [intOf]; omega
      · have HX : Hid (shpS (q + 1) n (.node 3 rt a b y e) = shpQ ⟨false, true, true, false, false⟩ rt ryl rel ma mb vy ve) := hV
        clear hV HAn HBn
        go_upto_region 22 with fail
        obtain ⟨W, hW⟩ : ∃ W, W = wr.alloc (.cells #[.int .u8 3, .int .i64 rt, .int .u8 rao, .int .i64 ran, .slice raA ral rac, .int .u8 rbo, .int .i64 rbn, .slice rbA rbl rbc, .slice ryA ryl ryc, .slice reA rel r9c] 39) := ⟨_, rfl⟩
        have HT' : Hid (∀ W', Below W.heap.size W W' → Ten W' ⟨wr.heap.size, 0, none⟩ ⟨3, rt, rao, ran, raA, ral, rac, rbo, rbn, rbA, rbl, rbc, ryA, ryl, ryc, reA, rel, r9c⟩) := by rw [hW]; exact HT
        have HB1 : Hid (Below wr.heap.size wr W) := by rw [hW]; exact HB0
        rw [← hW]
        clear hW HT HB0 g0 g1 g2 g3 g4 g5 g6 g7 g8 g9
        have t := HT'.out W (Below.refl _ _)
        have f1 := t.c1
        have f2 := t.c2
        have f3 := t.c3
        have f4 := t.c4
        have f8 := t.c8
        have f9 := t.c9
        dsimp only at f1 f2 f3 f4 f8 f9
        rw [Nat.zero_add] at f1 f2 f3 f4 f8 f9
        clear t
        by_cases c1 : rt < 0
        · go_wp2_with fail
          go_ret
          exact ⟨by rw [HN.out (HX.out.trans (shp_neg c1))]; rfl, hB.out.trans ((HB1.out).mono hB.out.size)⟩
        by_cases c2 : 7 < rt
        · go_wp2_with fail
          go_ret
          exact ⟨by rw [HN.out (HX.out.trans (shp_big c2))]; rfl, hB.out.trans ((HB1.out).mono hB.out.size)⟩
        by_cases c3 : 0 < rt
        · go_wp2_with fail
          go_ret
          exact ⟨by rw [HN.out (HX.out.trans (shp_to c3))]; rfl, hB.out.trans ((HB1.out).mono hB.out.size)⟩
        by_cases c4 : 0 < ryl
        · go_wp2_with fail
          go_ret
          exact ⟨by rw [HN.out (HX.out.trans (shp_body c4))]; rfl, hB.out.trans ((HB1.out).mono hB.out.size)⟩
        by_cases c5 : 0 < rel
        · go_wp2_with fail
          go_ret
          exact ⟨by rw [HN.out (HX.out.trans (shp_els c5))]; rfl, hB.out.trans ((HB1.out).mono hB.out.size)⟩
        go_wp2_with fail
        refine (HAm.out W HB1.out).mono ?_
        rintro _ w5 ⟨rfl, b5⟩
        have H5 := Lib.hid (HB1.out.trans (b5.mono HB1.out.size))
        have t := HT'.out w5 b5
        have f5 := t.c5
        have f6 := t.c6
        have f7 := t.c7
        dsimp only at f5 f6 f7
        rw [Nat.zero_add] at f5 f6 f7
        clear t f1 f2 f3 f4 f8 f9
        cases ma with
        | false =>
          go_wp2_with fail
          go_ret
          exact ⟨by rw [HN.out (by rw [HX.out]; simp [shpQ])]; rfl, hB.out.trans ((H5.out).mono hB.out.size)⟩
        | true =>
          go_wp2_with fail
          refine (HBm.out w5 H5.out).mono ?_
          rintro _ w6 ⟨rfl, b6⟩
          have H6 := Lib.hid (H5.out.trans (b6.mono H5.out.size))
          have t := HT'.out w6 (b5.trans (b6.mono b5.size))
          have f8 := t.c8
          dsimp only at f8
          rw [Nat.zero_add] at f8
          clear t f5 f6 f7
          cases mb with
          | false =>
            go_wp2_with fail
            go_ret
            exact ⟨by rw [HN.out (by rw [HX.out]; simp [shpQ])]; rfl, hB.out.trans ((H6.out).mono hB.out.size)⟩
          | true =>
            go_wp2_with fail
            refine (HY.out w6 H6.out _).mono ?_
            rintro _ w7 ⟨rfl, b7⟩
            have H7 := Lib.hid (H6.out.trans (b7.mono H6.out.size))
            have t := HT'.out w7 ((b5.trans (b6.mono b5.size)).trans (b7.mono (b5.trans (b6.mono b5.size)).size))
            have f9 := t.c9
            dsimp only at f9
            rw [Nat.zero_add] at f9
            clear t f8
            cases vy with
            | false =>
              go_wp2_with fail
              go_ret
              exact ⟨by rw [HN.out (by rw [HX.out]; simp [shpQ])]; rfl, hB.out.trans ((H7.out).mono hB.out.size)⟩
            | true =>
              go_wp2_with fail
              refine (HE.out w7 H7.out _).mono ?_
              rintro _ w8 ⟨rfl, b8⟩
              have H8 := Lib.hid (H7.out.trans (b8.mono H7.out.size))
              cases ve with
              | false =>
                go_wp2_with fail
                go_ret
                exact ⟨by rw [HN.out (by rw [HX.out]; simp [shpQ])]; rfl, hB.out.trans ((H8.out).mono hB.out.size)⟩
              | true =>
                have HQ := Lib.hid (HP.out (HX.out.trans (shp_ok (by omega) (by omega) (.inr (by omega)) (.inr (by omega)) (.inr (by omega)))))
                go_wp2_with fail
                go_roundw
                case rel => exact ⟨k + 1, by omega, by go_num, HQ.out, hB.out.trans (H8.out.mono hB.out.size)⟩
                case measure => simp [intOf]; omega
      · have HX : Hid (shpS (q + 1) n (.node 4 rt a b y e) = shpQ ⟨false, true, false, true, true⟩ rt ryl rel ma nb vy ve) := hV
        clear hV HAn HBm
        go_upto_region 22 with fail
        obtain ⟨W, hW⟩ : ∃ W, W = wr.alloc (.cells #[.int .u8 4, .int .i64 rt, .int .u8 rao, .int .i64 ran, .slice raA ral rac, .int .u8 rbo, .int .i64 rbn, .slice rbA rbl rbc, .slice ryA ryl ryc, .slice reA rel r9c] 39) := ⟨_, rfl⟩
        have HT' : Hid (∀ W', Below W.heap.size W W' → Ten W' ⟨wr.heap.size, 0, none⟩ ⟨4, rt, rao, ran, raA, ral, rac, rbo, rbn, rbA, rbl, rbc, ryA, ryl, ryc, reA, rel, r9c⟩) := by rw [hW]; exact HT
        have HB1 : Hid (Below wr.heap.size wr W) := by rw [hW]; exact HB0
        rw [← hW]
        clear hW HT HB0 g0 g1 g2 g3 g4 g5 g6 g7 g8 g9
        have t := HT'.out W (Below.refl _ _)
        have f1 := t.c1
        have f2 := t.c2
        have f3 := t.c3
        have f4 := t.c4
        have f8 := t.c8
        have f9 := t.c9
        dsimp only at f1 f2 f3 f4 f8 f9
        rw [Nat.zero_add] at f1 f2 f3 f4 f8 f9
        clear t
        by_cases c1 : rt < 0
        · go_wp2_with fail
          go_ret
          exact ⟨by rw [HN.out (HX.out.trans (shp_neg c1))]; rfl, hB.out.trans ((HB1.out).mono hB.out.size)⟩
        by_cases c2 : 7 < rt
        · go_wp2_with fail
          go_ret
          exact ⟨by rw [HN.out (HX.out.trans (shp_big c2))]; rfl, hB.out.trans ((HB1.out).mono hB.out.size)⟩
        by_cases c3 : 0 < rt
        · go_wp2_with fail
          go_ret
          exact ⟨by rw [HN.out (HX.out.trans (shp_to c3))]; rfl, hB.out.trans ((HB1.out).mono hB.out.size)⟩
        go_wp2_with fail
        refine (HAm.out W HB1.out).mono ?_
        rintro _ w5 ⟨rfl, b5⟩
        have H5 := Lib.hid (HB1.out.trans (b5.mono HB1.out.size))
        have t := HT'.out w5 b5
        have f5 := t.c5
        have f6 := t.c6
        have f7 := t.c7
        dsimp only at f5 f6 f7
        rw [Nat.zero_add] at f5 f6 f7
        clear t f1 f2 f3 f4 f8 f9
        cases ma with
        | false =>
          go_wp2_with fail
          go_ret
          exact ⟨by rw [HN.out (by rw [HX.out]; simp [shpQ])]; rfl, hB.out.trans ((H5.out).mono hB.out.size)⟩
        | true =>
          go_wp2_with fail
          refine (HBn.out w5 H5.out).mono ?_
          rintro _ w6 ⟨rfl, b6⟩
          have H6 := Lib.hid (H5.out.trans (b6.mono H5.out.size))
          have t := HT'.out w6 (b5.trans (b6.mono b5.size))
          have f8 := t.c8
          dsimp only at f8
          rw [Nat.zero_add] at f8
          clear t f5 f6 f7
          cases nb with
          | false =>
            go_wp2_with fail
            go_ret
            exact ⟨by rw [HN.out (by rw [HX.out]; simp [shpQ])]; rfl, hB.out.trans ((H6.out).mono hB.out.size)⟩
          | true =>
            go_wp2_with fail
            refine (HY.out w6 H6.out _).mono ?_
            rintro _ w7 ⟨rfl, b7⟩
            have H7 := Lib.hid (H6.out.trans (b7.mono H6.out.size))
            have t := HT'.out w7 ((b5.trans (b6.mono b5.size)).trans (b7.mono (b5.trans (b6.mono b5.size)).size))
            have f9 := t.c9
            dsimp only at f9
            rw [Nat.zero_add] at f9
            clear t f8
            cases vy with
            | false =>
              go_wp2_with fail
              go_ret
              exact ⟨by rw [HN.out (by rw [HX.out]; simp [shpQ])]; rfl, hB.out.trans ((H7.out).mono hB.out.size)⟩
            | true =>
              go_wp2_with fail
              refine (HE.out w7 H7.out _).mono ?_
              rintro _ w8 ⟨rfl, b8⟩
              have H8 := Lib.hid (H7.out.trans (b8.mono H7.out.size))
              cases ve with
              | false =>
                go_wp2_with fail
                go_ret
                exact ⟨by rw [HN.out (by rw [HX.out]; simp [shpQ])]; rfl, hB.out.trans ((H8.out).mono hB.out.size)⟩
              | true =>
                have HQ := Lib.hid (HP.out (HX.out.trans (shp_ok (by omega) (by omega) (.inr (by omega)) (.inl rfl) (.inl rfl))))
                go_wp2_with fail
                go_roundw
                case rel => exact ⟨k + 1, by omega, by go_num, HQ.out, hB.out.trans (H8.out.mono hB.out.size)⟩
                case measure => simp [intOf]; omega
      · have HX : Hid (shpS (q + 1) n (.node 5 rt a b y e) = shpQ ⟨false, true, false, true, false⟩ rt ryl rel ma nb vy ve) := hV
        clear hV HAn HBm
        go_upto_region 22 with fail
        obtain ⟨W, hW⟩ : ∃ W, W = wr.alloc (.cells #[.int .u8 5, .int .i64 rt, .int .u8 rao, .int .i64 ran, .slice raA ral rac, .int .u8 rbo, .int .i64 rbn, .slice rbA rbl rbc, .slice ryA ryl ryc, .slice reA rel r9c] 39) := ⟨_, rfl⟩
        have HT' : Hid (∀ W', Below W.heap.size W W' → Ten W' ⟨wr.heap.size, 0, none⟩ ⟨5, rt, rao, ran, raA, ral, rac, rbo, rbn, rbA, rbl, rbc, ryA, ryl, ryc, reA, rel, r9c⟩) := by rw [hW]; exact HT
        have HB1 : Hid (Below wr.heap.size wr W) := by rw [hW]; exact HB0
        rw [← hW]
        clear hW HT HB0 g0 g1 g2 g3 g4 g5 g6 g7 g8 g9
        have t := HT'.out W (Below.refl _ _)
        have f1 := t.c1
        have f2 := t.c2
        have f3 := t.c3
        have f4 := t.c4
        have f8 := t.c8
        have f9 := t.c9
        dsimp only at f1 f2 f3 f4 f8 f9
        rw [Nat.zero_add] at f1 f2 f3 f4 f8 f9
        clear t
        by_cases c1 : rt < 0
        · go_wp2_with fail
          go_ret
          exact ⟨by rw [HN.out (HX.out.trans (shp_neg c1))]; rfl, hB.out.trans ((HB1.out).mono hB.out.size)⟩
        by_cases c2 : 7 < rt
        · go_wp2_with fail
          go_ret
          exact ⟨by rw [HN.out (HX.out.trans (shp_big c2))]; rfl, hB.out.trans ((HB1.out).mono hB.out.size)⟩
        by_cases c3 : 0 < rt
        · go_wp2_with fail
          go_ret
          exact ⟨by rw [HN.out (HX.out.trans (shp_to c3))]; rfl, hB.out.trans ((HB1.out).mono hB.out.size)⟩
        by_cases c5 : 0 < rel
        · go_wp2_with fail
          go_ret
          exact ⟨by rw [HN.out (HX.out.trans (shp_els c5))]; rfl, hB.out.trans ((HB1.out).mono hB.out.size)⟩
        go_wp2_with fail
        refine (HAm.out W HB1.out).mono ?_
        rintro _ w5 ⟨rfl, b5⟩
        have H5 := Lib.hid (HB1.out.trans (b5.mono HB1.out.size))
        have t := HT'.out w5 b5
        have f5 := t.c5
        have f6 := t.c6
        have f7 := t.c7
        dsimp only at f5 f6 f7
        rw [Nat.zero_add] at f5 f6 f7
        clear t f1 f2 f3 f4 f8 f9
        cases ma with
        | false =>
          go_wp2_with fail
          go_ret
          exact ⟨by rw [HN.out (by rw [HX.out]; simp [shpQ])]; rfl, hB.out.trans ((H5.out).mono hB.out.size)⟩
        | true =>
          go_wp2_with fail
          refine (HBn.out w5 H5.out).mono ?_
          rintro _ w6 ⟨rfl, b6⟩
          have H6 := Lib.hid (H5.out.trans (b6.mono H5.out.size))
          have t := HT'.out w6 (b5.trans (b6.mono b5.size))
          have f8 := t.c8
          dsimp only at f8
          rw [Nat.zero_add] at f8
          clear t f5 f6 f7
          cases nb with
          | false =>
            go_wp2_with fail
            go_ret
            exact ⟨by rw [HN.out (by rw [HX.out]; simp [shpQ])]; rfl, hB.out.trans ((H6.out).mono hB.out.size)⟩
          | true =>
            go_wp2_with fail
            refine (HY.out w6 H6.out _).mono ?_
            rintro _ w7 ⟨rfl, b7⟩
            have H7 := Lib.hid (H6.out.trans (b7.mono H6.out.size))
            have t := HT'.out w7 ((b5.trans (b6.mono b5.size)).trans (b7.mono (b5.trans (b6.mono b5.size)).size))
            have f9 := t.c9
            dsimp only at f9
            rw [Nat.zero_add] at f9
            clear t f8
            cases vy with
            | false =>
              go_wp2_with fail
              go_ret
              exact ⟨by rw [HN.out (by rw [HX.out]; simp [shpQ])]; rfl, hB.out.trans ((H7.out).mono hB.out.size)⟩
            | true =>
              go_wp2_with fail
              refine (HE.out w7 H7.out _).mono ?_
              rintro _ w8 ⟨rfl, b8⟩
              have H8 := Lib.hid (H7.out.trans (b8.mono H7.out.size))
              cases ve with
              | false =>
                go_wp2_with fail
                go_ret
                exact ⟨by rw [HN.out (by rw [HX.out]; simp [shpQ])]; rfl, hB.out.trans ((H8.out).mono hB.out.size)⟩
              | true =>
                have HQ := Lib.hid (HP.out (HX.out.trans (shp_ok (by omega) (by omega) (.inr (by omega)) (.inl rfl) (.inr (by omega)))))
                go_wp2_with fail
                go_roundw
                case rel => exact ⟨k + 1, by omega, by go_num, HQ.out, hB.out.trans (H8.out.mono hB.out.size)⟩
                case measure => simp [intOf]; omega
      · have HX : Hid (shpS (q + 1) n (.node 6 rt a b y e) = shpQ ⟨false, false, false, false, false⟩ rt ryl rel na nb vy ve) := hV
        clear hV HAm HBm
        go_upto_region 22 with fail
        obtain ⟨W, hW⟩ : ∃ W, W = wr.alloc (.cells #[.int .u8 6, .int .i64 rt, .int .u8 rao, .int .i64 ran, .slice raA ral rac, .int .u8 rbo, .int .i64 rbn, .slice rbA rbl rbc, .slice ryA ryl ryc, .slice reA rel r9c] 39) := ⟨_, rfl⟩
        have HT' : Hid (∀ W', Below W.heap.size W W' → Ten W' ⟨wr.heap.size, 0, none⟩ ⟨6, rt, rao, ran, raA, ral, rac, rbo, rbn, rbA, rbl, rbc, ryA, ryl, ryc, reA, rel, r9c⟩) := by rw [hW]; exact HT
        have HB1 : Hid (Below wr.heap.size wr W) := by rw [hW]; exact HB0
        rw [← hW]
        clear hW HT HB0 g0 g1 g2 g3 g4 g5 g6 g7 g8 g9
        have t := HT'.out W (Below.refl _ _)
        have f1 := t.c1
        have f2 := t.c2
        have f3 := t.c3
        have f4 := t.c4
        have f8 := t.c8
        have f9 := t.c9
        dsimp only at f1 f2 f3 f4 f8 f9
        rw [Nat.zero_add] at f1 f2 f3 f4 f8 f9
        clear t
        by_cases c1 : rt < 0
        · go_wp2_with fail
          go_ret
          exact ⟨by rw [HN.out (HX.out.trans (shp_neg c1))]; rfl, hB.out.trans ((HB1.out).mono hB.out.size)⟩
        by_cases c2 : 7 < rt
        · go_wp2_with fail
          go_ret
          exact ⟨by rw [HN.out (HX.out.trans (shp_big c2))]; rfl, hB.out.trans ((HB1.out).mono hB.out.size)⟩
        by_cases c3 : 0 < rt
        · go_wp2_with fail
          go_ret
          exact ⟨by rw [HN.out (HX.out.trans (shp_to c3))]; rfl, hB.out.trans ((HB1.out).mono hB.out.size)⟩
        by_cases c4 : 0 < ryl
        · go_wp2_with fail
          go_ret
          exact ⟨by rw [HN.out (HX.out.trans (shp_body c4))]; rfl, hB.out.trans ((HB1.out).mono hB.out.size)⟩
        by_cases c5 : 0 < rel
        · go_wp2_with fail
          go_ret
          exact ⟨by rw [HN.out (HX.out.trans (shp_els c5))]; rfl, hB.out.trans ((HB1.out).mono hB.out.size)⟩
        go_wp2_with fail
        refine (HAn.out W HB1.out).mono ?_
        rintro _ w5 ⟨rfl, b5⟩
        have H5 := Lib.hid (HB1.out.trans (b5.mono HB1.out.size))
        have t := HT'.out w5 b5
        have f5 := t.c5
        have f6 := t.c6
        have f7 := t.c7
        dsimp only at f5 f6 f7
        rw [Nat.zero_add] at f5 f6 f7
        clear t f1 f2 f3 f4 f8 f9
        cases na with
        | false =>
          go_wp2_with fail
          go_ret
          exact ⟨by rw [HN.out (by rw [HX.out]; simp [shpQ])]; rfl, hB.out.trans ((H5.out).mono hB.out.size)⟩
        | true =>
          go_wp2_with fail
          refine (HBn.out w5 H5.out).mono ?_
          rintro _ w6 ⟨rfl, b6⟩
          have H6 := Lib.hid (H5.out.trans (b6.mono H5.out.size))
          have t := HT'.out w6 (b5.trans (b6.mono b5.size))
          have f8 := t.c8
          dsimp only at f8
          rw [Nat.zero_add] at f8
          clear t f5 f6 f7
          cases nb with
          | false =>
            go_wp2_with fail
            go_ret
            exact ⟨by rw [HN.out (by rw [HX.out]; simp [shpQ])]; rfl, hB.out.trans ((H6.out).mono hB.out.size)⟩
          | true =>
            go_wp2_with fail
            refine (HY.out w6 H6.out _).mono ?_
            rintro _ w7 ⟨rfl, b7⟩
            have H7 := Lib.hid (H6.out.trans (b7.mono H6.out.size))
            have t := HT'.out w7 ((b5.trans (b6.mono b5.size)).trans (b7.mono (b5.trans (b6.mono b5.size)).size))
            have f9 := t.c9
            dsimp only at f9
            rw [Nat.zero_add] at f9
            clear t f8
            cases vy with
            | false =>
              go_wp2_with fail
              go_ret
              exact ⟨by rw [HN.out (by rw [HX.out]; simp [shpQ])]; rfl, hB.out.trans ((H7.out).mono hB.out.size)⟩
            | true =>
              go_wp2_with fail
              refine (HE.out w7 H7.out _).mono ?_
              rintro _ w8 ⟨rfl, b8⟩
              have H8 := Lib.hid (H7.out.trans (b8.mono H7.out.size))
              cases ve with
              | false =>
                go_wp2_with fail
                go_ret
                exact ⟨by rw [HN.out (by rw [HX.out]; simp [shpQ])]; rfl, hB.out.trans ((H8.out).mono hB.out.size)⟩
              | true =>
                have HQ := Lib.hid (HP.out (HX.out.trans (shp_ok (by omega) (by omega) (.inr (by omega)) (.inr (by omega)) (.inr (by omega)))))
                go_wp2_with fail
                go_roundw
                case rel => exact ⟨k + 1, by omega, by go_num, HQ.out, hB.out.trans (H8.out.mono hB.out.size)⟩
                case measure => simp [intOf]; omega
      · have HX : Hid (shpS (q + 1) n (.node 7 rt a b y e) = shpQ ⟨false, false, false, true, true⟩ rt ryl rel na nb vy ve) := hV
        clear hV HAm HBm
        go_upto_region 22 with fail
        obtain ⟨W, hW⟩ : ∃ W, W = wr.alloc (.cells #[.int .u8 7, .int .i64 rt, .int .u8 rao, .int .i64 ran, .slice raA ral rac, .int .u8 rbo, .int .i64 rbn, .slice rbA rbl rbc, .slice ryA ryl ryc, .slice reA rel r9c] 39) := ⟨_, rfl⟩
        have HT' : Hid (∀ W', Below W.heap.size W W' → Ten W' ⟨wr.heap.size, 0, none⟩ ⟨7, rt, rao, ran, raA, ral, rac, rbo, rbn, rbA, rbl, rbc, ryA, ryl, ryc, reA, rel, r9c⟩) := by rw [hW]; exact HT
        have HB1 : Hid (Below wr.heap.size wr W) := by rw [hW]; exact HB0
        rw [← hW]
        clear hW HT HB0 g0 g1 g2 g3 g4 g5 g6 g7 g8 g9
        have t := HT'.out W (Below.refl _ _)
        have f1 := t.c1
        have f2 := t.c2
        have f3 := t.c3
        have f4 := t.c4
        have f8 := t.c8
        have f9 := t.c9
        dsimp only at f1 f2 f3 f4 f8 f9
        rw [Nat.zero_add] at f1 f2 f3 f4 f8 f9
        clear t
        by_cases c1 : rt < 0
        · go_wp2_with fail
          go_ret
          exact ⟨by rw [HN.out (HX.out.trans (shp_neg c1))]; rfl, hB.out.trans ((HB1.out).mono hB.out.size)⟩
        by_cases c2 : 7 < rt
        · go_wp2_with fail
          go_ret
          exact ⟨by rw [HN.out (HX.out.trans (shp_big c2))]; rfl, hB.out.trans ((HB1.out).mono hB.out.size)⟩
        by_cases c3 : 0 < rt
        · go_wp2_with fail
          go_ret
          exact ⟨by rw [HN.out (HX.out.trans (shp_to c3))]; rfl, hB.out.trans ((HB1.out).mono hB.out.size)⟩
        go_wp2_with fail
        refine (HAn.out W HB1.out).mono ?_
        rintro _ w5 ⟨rfl, b5⟩
        have H5 := Lib.hid (HB1.out.trans (b5.mono HB1.out.size))
        have t := HT'.out w5 b5
        have f5 := t.c5
        have f6 := t.c6
        have f7 := t.c7
        dsimp only at f5 f6 f7
        rw [Nat.zero_add] at f5 f6 f7
        clear t f1 f2 f3 f4 f8 f9
        cases na with
        | false =>
          go_wp2_with fail
          go_ret
          exact ⟨by rw [HN.out (by rw [HX.out]; simp [shpQ])]; rfl, hB.out.trans ((H5.out).mono hB.out.size)⟩
        | true =>
          go_wp2_with fail
          refine (HBn.out w5 H5.out).mono ?_
          rintro _ w6 ⟨rfl, b6⟩
          have H6 := Lib.hid (H5.out.trans (b6.mono H5.out.size))
          have t := HT'.out w6 (b5.trans (b6.mono b5.size))
          have f8 := t.c8
          dsimp only at f8
          rw [Nat.zero_add] at f8
          clear t f5 f6 f7
          cases nb with
          | false =>
            go_wp2_with fail
            go_ret
            exact ⟨by rw [HN.out (by rw [HX.out]; simp [shpQ])]; rfl, hB.out.trans ((H6.out).mono hB.out.size)⟩
          | true =>
            go_wp2_with fail
            refine (HY.out w6 H6.out _).mono ?_
            rintro _ w7 ⟨rfl, b7⟩
            have H7 := Lib.hid (H6.out.trans (b7.mono H6.out.size))
            have t := HT'.out w7 ((b5.trans (b6.mono b5.size)).trans (b7.mono (b5.trans (b6.mono b5.size)).size))
            have f9 := t.c9
            dsimp only at f9
            rw [Nat.zero_add] at f9
            clear t f8
            cases vy with
            | false =>
              go_wp2_with fail
              go_ret
              exact ⟨by rw [HN.out (by rw [HX.out]; simp [shpQ])]; rfl, hB.out.trans ((H7.out).mono hB.out.size)⟩
            | true =>
              go_wp2_with fail
              refine (HE.out w7 H7.out _).mono ?_
              rintro _ w8 ⟨rfl, b8⟩
              have H8 := Lib.hid (H7.out.trans (b8.mono H7.out.size))
              cases ve with
              | false =>
                go_wp2_with fail
                go_ret
                exact ⟨by rw [HN.out (by rw [HX.out]; simp [shpQ])]; rfl, hB.out.trans ((H8.out).mono hB.out.size)⟩
              | true =>
                have HQ := Lib.hid (HP.out (HX.out.trans (shp_ok (by omega) (by omega) (.inr (by omega)) (.inl rfl) (.inl rfl))))
                go_wp2_with fail
                go_roundw
                case rel => exact ⟨k + 1, by omega, by go_num, HQ.out, hB.out.trans (H8.out.mono hB.out.size)⟩
                case measure => simp [intOf]; omega
      · have HX : Hid (shpS (q + 1) n (.node 8 rt a b y e) = shpQ ⟨false, true, false, false, false⟩ rt ryl rel ma nb vy ve) := hV
        clear hV HAn HBm
        go_upto_region 22 with fail
        obtain ⟨W, hW⟩ : ∃ W, W = wr.alloc (.cells #[.int .u8 8, .int .i64 rt, .int .u8 rao, .int .i64 ran, .slice raA ral rac, .int .u8 rbo, .int .i64 rbn, .slice rbA rbl rbc, .slice ryA ryl ryc, .slice reA rel r9c] 39) := ⟨_, rfl⟩
        have HT' : Hid (∀ W', Below W.heap.size W W' → Ten W' ⟨wr.heap.size, 0, none⟩ ⟨8, rt, rao, ran, raA, ral, rac, rbo, rbn, rbA, rbl, rbc, ryA, ryl, ryc, reA, rel, r9c⟩) := by rw [hW]; exact HT
        have HB1 : Hid (Below wr.heap.size wr W) := by rw [hW]; exact HB0
        rw [← hW]
        clear hW HT HB0 g0 g1 g2 g3 g4 g5 g6 g7 g8 g9
        have t := HT'.out W (Below.refl _ _)
        have f1 := t.c1
        have f2 := t.c2
        have f3 := t.c3
        have f4 := t.c4
        have f8 := t.c8
        have f9 := t.c9
        dsimp only at f1 f2 f3 f4 f8 f9
        rw [Nat.zero_add] at f1 f2 f3 f4 f8 f9
        clear t
        by_cases c1 : rt < 0
        · go_wp2_with fail
          go_ret
          exact ⟨by rw [HN.out (HX.out.trans (shp_neg c1))]; rfl, hB.out.trans ((HB1.out).mono hB.out.size)⟩
        by_cases c2 : 7 < rt
        · go_wp2_with fail
          go_ret
          exact ⟨by rw [HN.out (HX.out.trans (shp_big c2))]; rfl, hB.out.trans ((HB1.out).mono hB.out.size)⟩
        by_cases c3 : 0 < rt
        · go_wp2_with fail
          go_ret
          exact ⟨by rw [HN.out (HX.out.trans (shp_to c3))]; rfl, hB.out.trans ((HB1.out).mono hB.out.size)⟩
        by_cases c4 : 0 < ryl
        · go_wp2_with fail
          go_ret
          exact ⟨by rw [HN.out (HX.out.trans (shp_body c4))]; rfl, hB.out.trans ((HB1.out).mono hB.out.size)⟩
        by_cases c5 : 0 < rel
        · go_wp2_with fail
          go_ret
          exact ⟨by rw [HN.out (HX.out.trans (shp_els c5))]; rfl, hB.out.trans ((HB1.out).mono hB.out.size)⟩
        go_wp2_with fail
        refine (HAm.out W HB1.out).mono ?_
        rintro _ w5 ⟨rfl, b5⟩
        have H5 := Lib.hid (HB1.out.trans (b5.mono HB1.out.size))
        have t := HT'.out w5 b5
        have f5 := t.c5
        have f6 := t.c6
        have f7 := t.c7
        dsimp only at f5 f6 f7
        rw [Nat.zero_add] at f5 f6 f7
        clear t f1 f2 f3 f4 f8 f9
        cases ma with
        | false =>
          go_wp2_with fail
          go_ret
          exact ⟨by rw [HN.out (by rw [HX.out]; simp [shpQ])]; rfl, hB.out.trans ((H5.out).mono hB.out.size)⟩
        | true =>
          go_wp2_with fail
          refine (HBn.out w5 H5.out).mono ?_
          rintro _ w6 ⟨rfl, b6⟩
          have H6 := Lib.hid (H5.out.trans (b6.mono H5.out.size))
          have t := HT'.out w6 (b5.trans (b6.mono b5.size))
          have f8 := t.c8
          dsimp only at f8
          rw [Nat.zero_add] at f8
          clear t f5 f6 f7
          cases nb with
          | false =>
            go_wp2_with fail
            go_ret
            exact ⟨by rw [HN.out (by rw [HX.out]; simp [shpQ])]; rfl, hB.out.trans ((H6.out).mono hB.out.size)⟩
          | true =>
            go_wp2_with fail
            refine (HY.out w6 H6.out _).mono ?_
            rintro _ w7 ⟨rfl, b7⟩
            have H7 := Lib.hid (H6.out.trans (b7.mono H6.out.size))
            have t := HT'.out w7 ((b5.trans (b6.mono b5.size)).trans (b7.mono (b5.trans (b6.mono b5.size)).size))
            have f9 := t.c9
            dsimp only at f9
            rw [Nat.zero_add] at f9
            clear t f8
            cases vy with
            | false =>
              go_wp2_with fail
              go_ret
              exact ⟨by rw [HN.out (by rw [HX.out]; simp [shpQ])]; rfl, hB.out.trans ((H7.out).mono hB.out.size)⟩
            | true =>
              go_wp2_with fail
              refine (HE.out w7 H7.out _).mono ?_
              rintro _ w8 ⟨rfl, b8⟩
              have H8 := Lib.hid (H7.out.trans (b8.mono H7.out.size))
              cases ve with
              | false =>
                go_wp2_with fail
                go_ret
                exact ⟨by rw [HN.out (by rw [HX.out]; simp [shpQ])]; rfl, hB.out.trans ((H8.out).mono hB.out.size)⟩
              | true =>
                have HQ := Lib.hid (HP.out (HX.out.trans (shp_ok (by omega) (by omega) (.inr (by omega)) (.inr (by omega)) (.inr (by omega)))))
                go_wp2_with fail
                go_roundw
                case rel => exact ⟨k + 1, by omega, by go_num, HQ.out, hB.out.trans (H8.out.mono hB.out.size)⟩
                case measure => simp [intOf]; omega
      · have HX : Hid (shpS (q + 1) n (.node rk rt a b y e) = false) := hV.trans (if_pos hno)
        clear hV HAm HAn HBm HBn
        have t1 : ((rk : Int) == 1) = false := by simp; omega
        have t2 : ((rk : Int) == 2) = false := by simp; omega
        have t3 : ((rk : Int) == 3) = false := by simp; omega
        have t4 : ((rk : Int) == 4) = false := by simp; omega
        have t5 : ((rk : Int) == 5) = false := by simp; omega
        have t6 : ((rk : Int) == 6) = false := by simp; omega
        have t7 : ((rk : Int) == 7) = false := by simp; omega
        have t8 : ((rk : Int) == 8) = false := by simp; omega
        clear hno
        go_wp2_with fail
        go_ret
        exact ⟨by rw [HN.out HX.out]; rfl, hB.out.trans (HB0.out.mono hB.out.size)⟩
    · have i1 : ¬ ((k : Int) < (tx.length : Int)) := by omega
      obtain rfl : k = tx.length := by omega
      have HL : Hid (tx.all (shpS d n) = true) := by have := hv.out; rwa [List.take_length] at this
      clear hv
      go_wp2_with fail
      go_ret
      exact ⟨by rw [HL.out]; rfl, hb⟩
end Go.Proofs.YtnkdaehmdcpafaaDoor
