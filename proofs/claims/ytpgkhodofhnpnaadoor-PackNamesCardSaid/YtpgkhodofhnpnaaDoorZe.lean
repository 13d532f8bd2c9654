/-
  SEVERAL TEXTS IN ONE (a claim has sixty files at most): Er, Ew, Ey, Qc, Qn, Qd, Qs, Qm: the head of each stands ahead of it. No condition but theirs.
-/
import Derived.Test.YtpgkhodofhnpnaaDoorZb
import Derived.LoopTactic
import Derived.Handy
import Derived.WalkLawsBesides
import Derived.WalkSpells
import Derived.Deep.RegionHeld3
import Derived.Deep.DeepCutAuto
import Derived.Deep.CutBlock
import Derived.Test.YtpgkhodofhnpnaaDoorCm
/-
  CONTRACTS OF seesawref04 (the document's own answers of layer 4): what each call answers of a tree in memory; the memory that was there stays as it was. Conditions: as they stand.
-/
namespace Go.Proofs.YtpgkhodofhnpnaaDoor
set_option maxRecDepth 100000
open Go.RowKit
set_option linter.unusedVariables false

set_option maxRecDepth 100000 in
theorem rsame_any (d : Nat) : ∀ (e f : Ex) (v u : Value) (lo hi lo' hi' : Nat) (w : World), At w lo hi d v e → At w lo' hi' d u f → hi ≤ w.heap.size → hi' ≤ w.heap.size →
    Calls Tryd.prog 47 #[v, u] w fun r w' => r = .returned (.bool (sameF d e f)) ∧ Below w.heap.size w w' := by
  induction d with
  | zero => intro e f v u lo hi lo' hi' w h; exact h.elim
  | succ d ih =>
    intro e f v u lo hi lo' hi' w h h' hhi hhi'
    obtain ⟨op, n, args⟩ := e
    obtain ⟨oq, m, brgs⟩ := f
    obtain ⟨q1, q2, q3, q4, A, c, rfl, hk⟩ := h.open_
    obtain ⟨p1, p2, p3, p4, B, c', rfl, hk'⟩ := h'.open_
    have b0 : Below w.heap.size w ((w.alloc (.cells #[.int .u8 op, .int .i64 n, .slice A args.length c] 25)).alloc (.cells #[.int .u8 oq, .int .i64 m, .slice B brgs.length c'] 25)) := by go_grown
    have HK := Lib.hid (Kids.below hk b0 hhi)
    have HK' := Lib.hid (Kids.below hk' b0 hhi')
    have IH := Lib.hid ih
    have hbox := Boxed.new w (.int .u8 op) (.int .i64 n) (.slice A args.length c)
    have hbox' := Boxed.new (w.alloc (.cells #[.int .u8 op, .int .i64 n, .slice A args.length c] 25)) (.int .u8 oq) (.int .i64 m) (.slice B brgs.length c')
    have hboxA : Hid (Boxed ((w.alloc (.cells #[.int .u8 op, .int .i64 n, .slice A args.length c] 25)).alloc (.cells #[.int .u8 oq, .int .i64 m, .slice B brgs.length c'] 25)) w.heap.size (.int .u8 op) (.int .i64 n) (.slice A args.length c)) :=
      hbox.below (B := w.heap.size + 1) ((Below.refl _ _).alloc (by simp) _) (by omega)
    have hboxB : Hid (Boxed ((w.alloc (.cells #[.int .u8 op, .int .i64 n, .slice A args.length c] 25)).alloc (.cells #[.int .u8 oq, .int .i64 m, .slice B brgs.length c'] 25)) (w.heap.size + 1) (.int .u8 oq) (.int .i64 m) (.slice B brgs.length c')) := by
      have hz : (w.alloc (.cells #[.int .u8 op, .int .i64 n, .slice A args.length c] 25)).heap.size = w.heap.size + 1 := by simp
      rw [hz] at hbox'
      exact hbox'
    have HZ0 : Hid (w.heap.size + 1 < ((w.alloc (.cells #[.int .u8 op, .int .i64 n, .slice A args.length c] 25)).alloc (.cells #[.int .u8 oq, .int .i64 m, .slice B brgs.length c'] 25)).heap.size) := by
      show _ < _
      simp
    have HB0 := Lib.hid b0
    clear hk hk' ih h h' hbox hbox' b0
    by_cases e1 : op = oq
    · by_cases e2 : n = m
      · by_cases e3 : args.length = brgs.length
        · have HV : Hid (sameF (d + 1) (.node op n args) (.node oq m brgs) = sameL (sameF d) args brgs) := by
            show sameF _ _ _ = _
            rw [sameF, decide_eq_true e1, decide_eq_true e2]; rfl
          subst e1
          subst e2
          have E3 := Lib.hid e3
          rw [← e3] at hboxB ⊢
          rw [← e3] at HB0 HK HK' HZ0 hboxA
          have hlen : args.length ≤ 9223372036854775807 := q4
          clear e3 q4 p4
          go_enter Tryd.func47, Tryd.ntmps47
          go_wp2_with fail
          have b0 := HB0.out
          have z0 := HZ0.out
          obtain ⟨W, hW⟩ : ∃ W, W = ((w.alloc (.cells #[.int .u8 op, .int .i64 n, .slice A args.length c] 25)).alloc (.cells #[.int .u8 op, .int .i64 n, .slice B args.length c'] 25)) := ⟨_, rfl⟩
          rw [← hW] at b0 z0 HK HK' hboxA hboxB ⊢
          clear hW HB0 HZ0
          go_loopw [5] (fun i wr => ∃ k : Nat, k ≤ args.length ∧ i = .int .i64 k ∧ Hid (sameL (sameF d) args brgs = sameL (sameF d) (args.drop k) (brgs.drop k)) ∧ Below W.heap.size W wr) (fun i _ => args.length - (intOf i).toNat)
          case atStart => exact ⟨0, by omega, rfl, rfl, Below.refl _ _⟩
          case round =>
            obtain ⟨k, hk, rfl, hall, hb⟩ := hrel
            have f2 := (hboxA.out.below hb (by omega)).c2
            have f3 := (hboxB.out.below hb z0).c2
            by_cases hlt : k < args.length
            · obtain ⟨a, x, y, z, rfl, m1, m2, g0, g1, g2, hA⟩ := HK.out.below hb (by omega) k hlt
              obtain ⟨a', x', y', z', rfl, m1', m2', g0', g1', g2', hA'⟩ := HK'.out.below hb (by omega) k (by rw [← E3.out]; exact hlt)
              have HI := Lib.hid (fun W' (hb' : Below wr.heap.size wr W') => IH.out args[k] _ _ _ _ _ _ _ W' (hA.below hb' (by have := hb.size; omega)) (hA'.below hb' (by have := hb.size; omega)) (by have := hb.size; have := hb'.size; omega) (by have := hb.size; have := hb'.size; omega))
              have hd := sameL_drop (sameF d) args brgs k hlt (by rw [← E3.out]; exact hlt)
              rw [hd] at hall
              clear hA hA' hd
              obtain ⟨bv, hbv⟩ : ∃ bv, bv = sameF d args[k] brgs[k] := ⟨_, rfl⟩
              rw [← hbv] at HI hall
              clear hbv
              go_wp2_with fail
              have i1 : (0 : Int) ≤ (k : Int) := by omega
              have i2 : (k : Int) < (args.length : Int) := by omega
              have HW : w.heap.size + 1 < wr.heap.size := by have := hb.size; omega
              have n1 : (a.add (k * 3)).block < wr.heap.size := by rw [ad_block]; have := hb.size; omega
              have n2 : (a'.add (k * 3)).block < wr.heap.size := by rw [ad_block]; have := hb.size; omega
              have hkeep : Hid (∀ w' : World, Below wr.heap.size wr w' → w'.cell? ⟨w.heap.size, 2, none⟩ = some (.slice (some a) args.length c) ∧ w'.cell? ⟨w.heap.size + 1, 2, none⟩ = some (.slice (some a') args.length c') ∧
                  w'.cell? (a.add (k * 3)) = some x ∧ w'.cell? ⟨(a.add (k * 3)).block, (a.add (k * 3)).off + 1, none⟩ = some y ∧ w'.cell? ⟨(a.add (k * 3)).block, (a.add (k * 3)).off + 2, none⟩ = some z ∧
                  w'.cell? (a'.add (k * 3)) = some x' ∧ w'.cell? ⟨(a'.add (k * 3)).block, (a'.add (k * 3)).off + 1, none⟩ = some y' ∧ w'.cell? ⟨(a'.add (k * 3)).block, (a'.add (k * 3)).off + 2, none⟩ = some z') := by
                intro w' h5
                exact ⟨(h5.cell (p := ⟨w.heap.size, 2, none⟩) (by show w.heap.size < _; omega)).trans f2, (h5.cell (p := ⟨w.heap.size + 1, 2, none⟩) HW).trans f3, (h5.cell n1).trans g0, (h5.cell (p := ⟨(a.add (k * 3)).block, _, none⟩) n1).trans g1, (h5.cell (p := ⟨(a.add (k * 3)).block, _, none⟩) n1).trans g2, (h5.cell n2).trans g0', (h5.cell (p := ⟨(a'.add (k * 3)).block, _, none⟩) n2).trans g1', (h5.cell (p := ⟨(a'.add (k * 3)).block, _, none⟩) n2).trans g2'⟩
              clear hk
              go_region_held3 (fun w' => w'.cell? ⟨w.heap.size, 2, none⟩ = some (.slice (some a) args.length c) ∧ w'.cell? ⟨w.heap.size + 1, 2, none⟩ = some (.slice (some a') args.length c') ∧
                  w'.cell? (a.add (k * 3)) = some x ∧ w'.cell? ⟨(a.add (k * 3)).block, (a.add (k * 3)).off + 1, none⟩ = some y ∧ w'.cell? ⟨(a.add (k * 3)).block, (a.add (k * 3)).off + 2, none⟩ = some z ∧
                  w'.cell? (a'.add (k * 3)) = some x' ∧ w'.cell? ⟨(a'.add (k * 3)).block, (a'.add (k * 3)).off + 1, none⟩ = some y' ∧ w'.cell? ⟨(a'.add (k * 3)).block, (a'.add (k * 3)).off + 2, none⟩ = some z')
                (first | exact hkeep.out _ hw5 | exact ⟨f2, f3, g0, g1, g2, g0', g1', g2'⟩ | fail)
                (first | (go_at_call 47; refine (HI.out wr.drew ((Below.refl _ _).drew)).mono ?_; rintro r w5 ⟨rfl, b5⟩; have hw5 : Below wr.heap.size wr w5 := ((Below.refl _ _).drew).trans (b5.mono (by simp))))
              all_goals
                have c5 := hb.trans (hw5.mono hb.size)
                clear hkeep f2 f3 g0 g1 g2 g0' g1' g2' b5 hw5 n1 n2 HW HI
                cases bv with
                | true =>
                  go_wp2_with fail
                  go_roundw
                  case rel => exact ⟨k + 1, by omega, by go_num, hall, c5⟩
                  case measure => simp [intOf]; omega
                | false =>
                  go_wp2_with fail
                  go_ret
                  exact ⟨by rw [HV.out, hall.out]; rfl, b0.trans (c5.mono b0.size)⟩
            · go_wp2_with fail
              go_ret
              refine ⟨?_, b0.trans (hb.mono b0.size)⟩
              rw [HV.out, hall.out, List.drop_eq_nil_of_le (by omega), List.drop_eq_nil_of_le (by have := E3.out; omega)]
              rfl
        · have HV : Hid (sameF (d + 1) (.node op n args) (.node oq m brgs) = false) := by
            show sameF _ _ _ = _
            rw [sameF, sameL_len _ _ _ e3, Bool.and_false, Bool.and_false]
          have t1 : ((op : Int) != oq) = false := by simp; omega
          have t2 : (n != m) = false := by simp; omega
          have t3 : ((args.length : Int) != brgs.length) = true := by simp; omega
          clear e1 e2 e3
          go_enter Tryd.func47, Tryd.ntmps47
          go_wp2_with fail
          go_ret
          exact ⟨by rw [HV.out]; rfl, HB0.out⟩
      · have HV : Hid (sameF (d + 1) (.node op n args) (.node oq m brgs) = false) := by
          show sameF _ _ _ = _
          rw [sameF, decide_eq_false e2, Bool.false_and, Bool.and_false]
        have t1 : ((op : Int) != oq) = false := by simp; omega
        have t2 : (n != m) = true := by simp; omega
        clear e1 e2
        go_enter Tryd.func47, Tryd.ntmps47
        go_wp2_with fail
        go_ret
        exact ⟨by rw [HV.out]; rfl, HB0.out⟩
    · have HV : Hid (sameF (d + 1) (.node op n args) (.node oq m brgs) = false) := by
        show sameF _ _ _ = _
        rw [sameF, decide_eq_false e1, Bool.false_and]
      have t1 : ((op : Int) != oq) = true := by simp; omega
      clear e1
      go_enter Tryd.func47, Tryd.ntmps47
      go_wp2_with fail
      go_ret
      exact ⟨by rw [HV.out]; rfl, HB0.out⟩
end Go.Proofs.YtpgkhodofhnpnaaDoor
/-
  CONTRACTS OF seesawref04's whole, Whole, May (the document's own answers of layer 4); the memory that was there stays as it was. Conditions: as they stand.
-/
namespace Go.Proofs.YtpgkhodofhnpnaaDoor
set_option maxRecDepth 100000
open Go.RowKit
set_option linter.unusedVariables false

end Go.Proofs.YtpgkhodofhnpnaaDoor
/-
  CONTRACTS OF seesawref04's Whole, May, Variable (the document's own answers of layer 4); the memory that was there stays as it was. Conditions: as they stand.
-/
namespace Go.Proofs.YtpgkhodofhnpnaaDoor
set_option maxRecDepth 100000
open Go.RowKit
set_option linter.unusedVariables false
end Go.Proofs.YtpgkhodofhnpnaaDoor
/-
  CONTRACT OF seesawref05's Cost (the document's own answer of layer 5): a transaction's cost, cut; the memory that was there stays as it was. Conditions: as they stand.
-/
namespace Go.Proofs.YtpgkhodofhnpnaaDoor
set_option maxRecDepth 100000
open Go.RowKit
set_option linter.unusedVariables false
/-- How far the sum has come: it is still the cost's, or it is too much. -/
def CostAt (f : St → Nat) (tx : List St) (k u : Nat) : Prop := (u ≤ 2000 ∧ costL f tx 0 = costL f (tx.drop k) u) ∨ (2000 < u ∧ costL f tx 0 = 2001)
theorem CostAt.step {f : St → Nat} {tx : List St} {k u : Nat} (h : CostAt f tx k u) (hu : u ≤ 2000) (hk : k < tx.length) : CostAt f tx (k + 1) (u + f tx[k]) := by
  rcases h with ⟨_, h⟩ | ⟨h, _⟩
  · rw [costL_drop _ _ _ _ hk] at h
    by_cases hb : 2000 < u + f tx[k]
    · rw [if_pos hb] at h
      exact .inr ⟨hb, h⟩
    · rw [if_neg hb] at h
      exact .inl ⟨by omega, h⟩
  · omega
theorem CostAt.done {f : St → Nat} {tx : List St} {k u : Nat} (h : CostAt f tx k u) (hk : tx.length ≤ k ∨ 2000 < u) : costL f tx 0 = if 2000 < u then 2001 else u := by
  rcases h with ⟨hu, h⟩ | ⟨hu, h⟩
  · rw [if_neg (by omega), h, List.drop_eq_nil_of_le (by omega)]
    rfl
  · rw [if_pos hu, h]
end Go.Proofs.YtpgkhodofhnpnaaDoor
/-
  CONTRACTS OF seesawref05's exprs and Count (the document's own answers of layer 5): how many an expression is; how many statements and expressions a transaction has; the memory that was there stays as it was. Conditions: as they stand.
-/
namespace Go.Proofs.YtpgkhodofhnpnaaDoor
set_option maxRecDepth 100000
open Go.RowKit
set_option linter.unusedVariables false
/-- How many statements; how many expressions. -/
def numSt : Nat → St → Nat
  | 0, _ => 0
  | d + 1, .node _ _ _ _ y e => 1 + (y.map (numSt d)).sum + (e.map (numSt d)).sum
def nodS : Nat → St → Nat
  | 0, _ => 0
  | d + 1, .node _ _ a b y e => (y.map (nodS d)).sum + (e.map (nodS d)).sum + cntE d a + cntE d b
theorem sumS_take (f : St → Nat) (l : List St) (k : Nat) (h : k < l.length) : ((l.take (k + 1)).map f).sum = ((l.take k).map f).sum + f l[k] := by
  rw [List.take_succ_eq_append_getElem h, List.map_append, List.sum_append]
  simp
theorem sumS_le (f : St → Nat) (l : List St) (k : Nat) : ((l.take k).map f).sum ≤ (l.map f).sum := by
  conv => rhs; rw [← List.take_append_drop k l, List.map_append, List.sum_append]
  omega
end Go.Proofs.YtpgkhodofhnpnaaDoor
/-
  CONTRACT OF seesawref05's Depth (the document's own answer of layer 5): how deep a transaction is; the memory that was there stays as it was. Conditions: as they stand.
-/
namespace Go.Proofs.YtpgkhodofhnpnaaDoor
set_option maxRecDepth 100000
open Go.RowKit
set_option linter.unusedVariables false
/-- How deep a block is; a statement: how deep its blocks are. -/
def maxOf (f : St → Nat) (l : List St) : Nat := l.foldl (fun m s => max m (f s)) 0
def blkD (f : St → Nat) (l : List St) : Nat := if l.length = 0 then 0 else maxOf f l + 1
def depS : Nat → St → Nat
  | 0, _ => 0
  | d + 1, .node _ _ _ _ y e => max (blkD (depS d) y) (blkD (depS d) e)
theorem maxOf_take (f : St → Nat) (l : List St) (k : Nat) (h : k < l.length) : maxOf f (l.take (k + 1)) = max (maxOf f (l.take k)) (f l[k]) := by
  unfold maxOf
  rw [List.take_succ_eq_append_getElem h, List.foldl_append]
  rfl
theorem maxOf_le (f : St → Nat) (b : Nat) (l : List St) (h : ∀ s ∈ l, f s ≤ b) : maxOf f l ≤ b := by
  unfold maxOf
  have : ∀ (l : List St) (m : Nat), m ≤ b → (∀ s ∈ l, f s ≤ b) → l.foldl (fun m s => max m (f s)) m ≤ b := by
    intro l
    induction l with
    | nil => intro m hm _; exact hm
    | cons x r ih =>
      intro m hm h
      have := h x List.mem_cons_self
      exact ih _ (by show max m (f x) ≤ b; omega) fun s hs => h s (List.mem_cons_of_mem _ hs)
  exact this l 0 (Nat.zero_le _) h
theorem depS_le : ∀ (d : Nat) (s : St), depS d s ≤ d := by
  intro d
  induction d with
  | zero => intro s; exact Nat.zero_le _
  | succ d ih =>
    intro s
    obtain ⟨k, t, a, b, y, e⟩ := s
    have h1 : blkD (depS d) y ≤ d + 1 := by
      unfold blkD
      have := maxOf_le (depS d) d y fun s _ => ih s
      split <;> omega
    have h2 : blkD (depS d) e ≤ d + 1 := by
      unfold blkD
      have := maxOf_le (depS d) d e fun s _ => ih s
      split <;> omega
    rw [depS]
    omega
end Go.Proofs.YtpgkhodofhnpnaaDoor
/-
  CONTRACTS OF seesawref05's none and shaped (the document's own answers of layer 5): whether there is no expression; whether all statements of all blocks are shaped; the memory that was there stays as it was. Conditions: as they stand.
-/
namespace Go.Proofs.YtpgkhodofhnpnaaDoor
set_option maxRecDepth 100000
open Go.RowKit
set_option linter.unusedVariables false
def mayX (d : Nat) (e : Ex) (n : Int) : Bool := wholeF 6 e && belowF d e n
/-- A statement's own shape, by what its Kind asks; what its expressions and its blocks come to. -/
def shpQ (q : Asks) (t : Int) (yl el : Nat) (ba bb ry re : Bool) : Bool :=
  decide (0 ≤ t) && (decide (t ≤ 7) && ((q.to || decide (t ≤ 0)) && ((q.body || decide (yl = 0)) && ((q.els || decide (el = 0)) && (ba && (bb && (ry && re)))))))
theorem shp_neg {q : Asks} {t : Int} {yl el : Nat} {ba bb ry re : Bool} (h : t < 0) : shpQ q t yl el ba bb ry re = false := by
  unfold shpQ
  rw [decide_eq_false (by omega), Bool.false_and]
theorem shp_big {q : Asks} {t : Int} {yl el : Nat} {ba bb ry re : Bool} (h : 7 < t) : shpQ q t yl el ba bb ry re = false := by
  unfold shpQ
  rw [decide_eq_false (p := t ≤ 7) (by omega), Bool.false_and, Bool.and_false]
theorem shp_to {a b y e : Bool} {t : Int} {yl el : Nat} {ba bb ry re : Bool} (h : 0 < t) : shpQ ⟨false, a, b, y, e⟩ t yl el ba bb ry re = false := by
  unfold shpQ
  rw [decide_eq_false (p := t ≤ 0) (by omega)]
  simp
theorem shp_body {x a b e : Bool} {t : Int} {yl el : Nat} {ba bb ry re : Bool} (h : 0 < yl) : shpQ ⟨x, a, b, false, e⟩ t yl el ba bb ry re = false := by
  unfold shpQ
  rw [decide_eq_false (p := yl = 0) (by omega)]
  simp
theorem shp_els {x a b y : Bool} {t : Int} {yl el : Nat} {ba bb ry re : Bool} (h : 0 < el) : shpQ ⟨x, a, b, y, false⟩ t yl el ba bb ry re = false := by
  unfold shpQ
  rw [decide_eq_false (p := el = 0) (by omega)]
  simp
theorem shp_ok {q : Asks} {t : Int} {yl el : Nat} (h0 : 0 ≤ t) (h1 : t ≤ 7) (h2 : q.to = true ∨ t ≤ 0) (h3 : q.body = true ∨ yl = 0) (h4 : q.els = true ∨ el = 0) : shpQ q t yl el true true true true = true := by
  unfold shpQ
  rw [decide_eq_true h0, decide_eq_true h1]
  have e2 : (q.to || decide (t ≤ 0)) = true := by rcases h2 with h | h <;> simp [h]
  have e3 : (q.body || decide (yl = 0)) = true := by rcases h3 with h | h <;> simp [h]
  have e4 : (q.els || decide (el = 0)) = true := by rcases h4 with h | h <;> simp [h]
  rw [e2, e3, e4]
  rfl
def shpS : Nat → Int → St → Bool
  | 0, _, _ => false
  | d + 1, n, .node k t a b y e => if k < 1 ∨ 8 < k then false else shpQ (ask k) t y.length e.length (if (ask k).a then mayX d a n else noneE a) (if (ask k).b then mayX d b n else noneE b) (y.all (shpS d n)) (e.all (shpS d n))
theorem all_take (f : St → Bool) (l : List St) (k : Nat) (h : k < l.length) (h1 : (l.take k).all f = true) (h2 : f l[k] = true) : (l.take (k + 1)).all f = true := by
  rw [List.take_succ_eq_append_getElem h, List.all_append, h1]
  simp [h2]
theorem all_not (f : St → Bool) (l : List St) (k : Nat) (h : k < l.length) (h2 : f l[k] = false) : l.all f = false := by
  cases hc : l.all f with
  | false => rfl
  | true => rw [List.all_eq_true.1 hc _ (List.getElem_mem h)] at h2; cases h2
end Go.Proofs.YtpgkhodofhnpnaaDoor
/-
  CONTRACT OF seesawref05's May (the document's own answer of layer 5): whether a transaction may be, the n-th one of its thread; the memory that was there stays as it was. Conditions: as they stand.
-/
namespace Go.Proofs.YtpgkhodofhnpnaaDoor
set_option maxRecDepth 100000
open Go.RowKit
set_option linter.unusedVariables false
def rmayF (d : Nat) (tx : List St) (n : Int) : Bool :=
  decide (0 ≤ n) && (decide (n ≤ 5) && (decide ((tx.map (numSt d)).sum ≤ 40) && (decide ((tx.map (nodS d)).sum ≤ 300) && (decide (maxOf (depS d) tx + 1 ≤ 6) && (decide (costL (costF d) tx 0 ≤ 2000) && tx.all (shpS d n))))))
end Go.Proofs.YtpgkhodofhnpnaaDoor
