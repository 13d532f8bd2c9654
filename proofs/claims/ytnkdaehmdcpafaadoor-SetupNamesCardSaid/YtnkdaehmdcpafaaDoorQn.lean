/-
  CONTRACTS OF seesawref05's exprs and Count (the document's own answers of layer 5): how many an expression is; how many statements and expressions a transaction has; the memory that was there stays as it was. Conditions: as they stand.
-/
import Derived.Test.YtnkdaehmdcpafaaDoorCm
import Derived.Test.YtnkdaehmdcpafaaDoorEr
import Derived.Deep.DeepCutAuto
import Derived.Deep.CutBlock
namespace Go.Proofs.YtnkdaehmdcpafaaDoor
open Go.RowKit
set_option linter.unusedVariables false
/-- How many statements; how many expressions. -/
def numS : Nat → St → Nat
  | 0, _ => 0
  | d + 1, .node _ _ _ _ y e => 1 + (y.map (numS d)).sum + (e.map (numS d)).sum
def nodS : Nat → St → Nat
  | 0, _ => 0
  | d + 1, .node _ _ a b y e => (y.map (nodS d)).sum + (e.map (nodS d)).sum + cntE d a + cntE d b
theorem sumS_take (f : St → Nat) (l : List St) (k : Nat) (h : k < l.length) : ((l.take (k + 1)).map f).sum = ((l.take k).map f).sum + f l[k] := by
  rw [List.take_succ_eq_append_getElem h, List.map_append, List.sum_append]
  simp
theorem sumS_le (f : St → Nat) (l : List St) (k : Nat) : ((l.take k).map f).sum ≤ (l.map f).sum := by
  conv => rhs; rw [← List.take_append_drop k l, List.map_append, List.sum_append]
  omega
set_option maxRecDepth 100000 in
theorem rexprs_any (d : Nat) (o : Nat) (n : Int) (A : Option Addr) (l c : Nat) (e : Ex) (lo hi : Nat) (w : World) (h : At w lo hi d (.agg #[.int .u8 o, .int .i64 n, .slice A l c]) e) (hhi : hi ≤ w.heap.size) (hc : cntE d e ≤ 100000) :
    Calls Tryd.prog 61 #[.agg #[.int .u8 o, .int .i64 n, .slice A l c]] w fun r w' => r = .returned (.int .i64 (cntE d e : Nat)) ∧ Below w.heap.size w w' := by
  have hop : e.op = o := by
    cases d with
    | zero => exact h.elim
    | succ d =>
      obtain ⟨op, m, args⟩ := e
      obtain ⟨_, _, _, _, A', c', hv, _⟩ := h.open_
      have h1 := (Value.agg.inj hv)
      simp at h1
      show op = o
      omega
  have b0 := boxed_below w (.int .u8 o) (.int .i64 n) (.slice A l c)
  have z0 : w.heap.size < (w.alloc (.cells #[.int .u8 o, .int .i64 n, .slice A l c] 37)).heap.size := by simp
  by_cases h0 : o = 0
  · have HV : Hid (cntE d e = 0) := by show cntE _ _ = _; rw [cntE, if_pos (by omega)]
    have t0 : ((o : Int) == 0) = true := by simp; omega
    have HB := Lib.hid b0
    clear h hop h0 b0 z0
    go_enter Tryd.func61, Tryd.ntmps61
    go_wp2_with fail
    go_ret
    exact ⟨by rw [HV.out]; rfl, HB.out⟩
  · have hv : cntE d e = cnt d e := by rw [cntE, if_neg (by omega)]
    rw [hv] at hc ⊢
    have t0 : ((o : Int) == 0) = false := by simp; omega
    have HC := Lib.hid (rcount_any d e _ lo hi _ (h.below b0 hhi) (by have := b0.size; omega) hc)
    have HB := Lib.hid b0
    clear h hop h0 b0 z0 hv
    go_enter Tryd.func61, Tryd.ntmps61
    go_wp2_with fail
    refine HC.out.mono ?_
    rintro r w5 ⟨rfl, b5⟩
    go_wp2_with fail
    go_ret
    exact ⟨rfl, HB.out.trans (b5.mono HB.out.size)⟩
set_option maxRecDepth 100000 in
set_option maxHeartbeats 4000000 in
theorem rcnt_of (d : Nat) : ∀ (A : Option Addr) (c : Nat) (tx : List St) (lo hi : Nat) (w : World), SKids w lo hi d A tx → hi ≤ w.heap.size → tx.length ≤ 9223372036854775807 → (tx.map (numS d)).sum ≤ 100000 → (tx.map (nodS d)).sum ≤ 100000 →
    Calls Tryd.prog 52 #[.slice A tx.length c] w fun z w' => z = .returned (.tuple #[.int .i64 ((tx.map (numS d)).sum : Nat), .int .i64 ((tx.map (nodS d)).sum : Nat)]) ∧ Below w.heap.size w w' := by
  induction d using Nat.strongRecOn with
  | _ d ih =>
  intro A c tx lo hi w hk hhi hl hm1 hm2
  have HK := Lib.hid hk
  have IH := Lib.hid ih
  clear hk ih
  go_enter Tryd.func52, Tryd.ntmps52
  go_wp2_with fail
  go_loopw [4, 5, 6] (fun a b i wr => ∃ k : Nat, k ≤ tx.length ∧ i = .int .i64 k ∧ a = .int .i64 (((tx.take k).map (numS d)).sum : Nat) ∧ b = .int .i64 (((tx.take k).map (nodS d)).sum : Nat) ∧ Below w.heap.size w wr) (fun _ _ i _ => tx.length - (intOf i).toNat)
  case atStart => exact ⟨0, by omega, rfl, rfl, rfl, Below.refl _ _⟩
  case round =>
    obtain ⟨k, hk, rfl, rfl, rfl, hb⟩ := hrel
    by_cases hlt : k < tx.length
    · have i1 : (k : Int) < (tx.length : Int) := by omega
      have i0 : (0 : Int) ≤ (k : Int) := by omega
      have s1 := sumS_take (numS d) tx k hlt
      have s2 := sumS_take (nodS d) tx k hlt
      have s3 := sumS_le (numS d) tx (k + 1)
      have s4 := sumS_le (nodS d) tx (k + 1)
      obtain ⟨u, hu⟩ : ∃ u, u = ((tx.take k).map (numS d)).sum := ⟨_, rfl⟩
      obtain ⟨v, hv⟩ : ∃ v, v = ((tx.take k).map (nodS d)).sum := ⟨_, rfl⟩
      rw [← hu] at s1 ⊢
      rw [← hv] at s2 ⊢
      obtain ⟨p, r, rfl, m1, m2, ht, hs⟩ := HK.out.below hb (by omega) k hlt
      obtain ⟨q, rfl⟩ := hs.pos
      obtain ⟨s, hsx⟩ : ∃ s, s = tx[k] := ⟨_, rfl⟩
      rw [← hsx] at s1 s2 hs
      obtain ⟨kk, t, a, b, y, e⟩ := s
      obtain ⟨⟨e1, e2, e3, e4⟩, ⟨q1, q2, q3, q4, q5⟩, ha, hbb, hy, he⟩ := hs.open_
      have n1 : numS (q + 1) (.node kk t a b y e) = 1 + (y.map (numS q)).sum + (e.map (numS q)).sum := rfl
      have n2 : nodS (q + 1) (.node kk t a b y e) = (y.map (nodS q)).sum + (e.map (nodS q)).sum + cntE q a + cntE q b := rfl
      rw [n1] at s1
      rw [n2] at s2
      have hzr := hb.size
      have HY := Lib.hid (fun W' (h' : Below wr.heap.size wr W') (c : Nat) => IH.out q (by omega) r.yA c y lo hi W' (hy.below h' (by omega)) (by have := h'.size; omega) q4 (by omega) (by omega))
      have HE := Lib.hid (fun W' (h' : Below wr.heap.size wr W') (c : Nat) => IH.out q (by omega) r.eA c e lo hi W' (he.below h' (by omega)) (by have := h'.size; omega) q5 (by omega) (by omega))
      have HA := Lib.hid (fun W' (h' : Below wr.heap.size wr W') => rexprs_any q r.ao r.an r.aA r.al r.ac a lo hi W' (ha.below h' (by omega)) (by have := h'.size; omega) (by omega))
      have HBB := Lib.hid (fun W' (h' : Below wr.heap.size wr W') => rexprs_any q r.bo r.bn r.bA r.bl r.bc b lo hi W' (hbb.below h' (by omega)) (by have := h'.size; omega) (by omega))
      have HT := Lib.hid (fun W' (h' : Below wr.heap.size wr W') => ht.below h' (by rw [ad_block]; omega))
      obtain ⟨x1, hx1⟩ : ∃ x, x = (y.map (numS q)).sum := ⟨_, rfl⟩
      obtain ⟨x2, hx2⟩ : ∃ x, x = (e.map (numS q)).sum := ⟨_, rfl⟩
      obtain ⟨z1, hz1⟩ : ∃ x, x = (y.map (nodS q)).sum := ⟨_, rfl⟩
      obtain ⟨z2, hz2⟩ : ∃ x, x = (e.map (nodS q)).sum := ⟨_, rfl⟩
      obtain ⟨z3, hz3⟩ : ∃ x, x = cntE q a := ⟨_, rfl⟩
      obtain ⟨z4, hz4⟩ : ∃ x, x = cntE q b := ⟨_, rfl⟩
      rw [← hx1, ← hx2] at s1
      rw [← hz1, ← hz2, ← hz3, ← hz4] at s2
      rw [← hx1, ← hz1] at HY
      rw [← hx2, ← hz2] at HE
      rw [← hz3] at HA
      rw [← hz4] at HBB
      have g8 := ht.c8
      obtain ⟨rk, rt, rao, ran, raA, ral, rac, rbo, rbn, rbA, rbl, rbc, ryA, ryl, ryc, reA, rel, r9c⟩ := r
      dsimp only at *
      subst e1 e2 e3 e4
      have HS := Lib.hid (And.intro s1 s2)
      have hB := Lib.hid hb
      have k1 : u + (1 + x1 + x2) ≤ 100000 := by omega
      have k2 : v + (z1 + z2 + z3 + z4) ≤ 100000 := by omega
      clear s1 s2 s3 s4 n1 n2 hu hv hx1 hx2 hz1 hz2 hz3 hz4 ht hs hsx hy he ha hbb m1 m2 hzr hb
      go_wp2_with fail
      refine (HY.out wr (Below.refl _ _) _).mono ?_
      rintro _ w5 ⟨rfl, b5⟩
      have g9 := (HT.out w5 b5).c9
      dsimp only at g9
      clear g8
      go_wp2_with fail
      refine (HE.out w5 b5 _).mono ?_
      rintro _ w6 ⟨rfl, b6⟩
      have b6 := b5.trans (b6.mono b5.size)
      clear g9 b5
      go_upto_region 8 with fail
      have hkeep : Hid (∀ w' : World, Below w6.heap.size w6 w' → w'.cell? ⟨(p.add (k * 10)).block, (p.add (k * 10)).off + 2, none⟩ = some (.int .u8 rao) ∧ w'.cell? ⟨(p.add (k * 10)).block, (p.add (k * 10)).off + 3, none⟩ = some (.int .i64 ran) ∧ w'.cell? ⟨(p.add (k * 10)).block, (p.add (k * 10)).off + 4, none⟩ = some (.slice raA ral rac) ∧ w'.cell? ⟨(p.add (k * 10)).block, (p.add (k * 10)).off + 5, none⟩ = some (.int .u8 rbo) ∧ w'.cell? ⟨(p.add (k * 10)).block, (p.add (k * 10)).off + 6, none⟩ = some (.int .i64 rbn) ∧ w'.cell? ⟨(p.add (k * 10)).block, (p.add (k * 10)).off + 7, none⟩ = some (.slice rbA rbl rbc) ∧ Below w6.heap.size w6 w') := fun w' h' => by
        have t := HT.out w' (b6.trans (h'.mono b6.size))
        exact ⟨t.c2, t.c3, t.c4, t.c5, t.c6, t.c7, h'⟩
      have HA' : Hid (∀ W', Below w6.heap.size w6 W' → Calls Tryd.prog 61 #[.agg #[.int .u8 rao, .int .i64 ran, .slice raA ral rac]] W' fun z w' => z = .returned (.int .i64 (z3 : Nat)) ∧ Below w6.heap.size w6 w') := fun W' h' =>
        (HA.out W' (b6.trans (h'.mono b6.size))).mono fun z w' hz => ⟨hz.1, h'.trans (hz.2.mono h'.size)⟩
      have HB' : Hid (∀ W', Below w6.heap.size w6 W' → Calls Tryd.prog 61 #[.agg #[.int .u8 rbo, .int .i64 rbn, .slice rbA rbl rbc]] W' fun z w' => z = .returned (.int .i64 (z4 : Nat)) ∧ Below w6.heap.size w6 w') := fun W' h' =>
        (HBB.out W' (b6.trans (h'.mono b6.size))).mono fun z w' hz => ⟨hz.1, h'.trans (hz.2.mono h'.size)⟩
      have H6 := Lib.hid b6
      have E0 := Lib.hid (hkeep.out w6 (Below.refl _ _))
      have E1 := Lib.hid (hkeep.out w6.drew (Below.refl _ _).drew)
      obtain ⟨f2, f3, f4, f5, f6, f7, -⟩ := E0.out
      clear HA HBB HY HE HT b6
      go_region_held3 (fun w' => w'.cell? ⟨(p.add (k * 10)).block, (p.add (k * 10)).off + 2, none⟩ = some (.int .u8 rao) ∧ w'.cell? ⟨(p.add (k * 10)).block, (p.add (k * 10)).off + 3, none⟩ = some (.int .i64 ran) ∧ w'.cell? ⟨(p.add (k * 10)).block, (p.add (k * 10)).off + 4, none⟩ = some (.slice raA ral rac) ∧ w'.cell? ⟨(p.add (k * 10)).block, (p.add (k * 10)).off + 5, none⟩ = some (.int .u8 rbo) ∧ w'.cell? ⟨(p.add (k * 10)).block, (p.add (k * 10)).off + 6, none⟩ = some (.int .i64 rbn) ∧ w'.cell? ⟨(p.add (k * 10)).block, (p.add (k * 10)).off + 7, none⟩ = some (.slice rbA rbl rbc) ∧ Below w6.heap.size w6 w')
        (first | exact hkeep.out _ b8 | exact hkeep.out _ b7 | exact E1.out | exact E0.out | fail)
        (first
          | (go_at_call 61; refine (HB'.out w7 b7).mono ?_; rintro _ w8 ⟨rfl, b8⟩)
          | (go_at_call 61; refine (HA'.out w6.drew (Below.refl _ _).drew).mono ?_; rintro _ w7 ⟨rfl, b7⟩)
          | fail)
      have HBN := Lib.hid (hB.out.trans ((H6.out.trans (b8.mono H6.out.size)).mono hB.out.size))
      clear hkeep HA' HB' E0 E1 f2 f3 f4 f5 f6 f7 b7 b8
      go_wp2_with fail
      go_roundw
      case rel => exact ⟨k + 1, by omega, by go_num, by rw [HS.out.1]; go_num, by rw [HS.out.2, IntWalk.i64_in ((v : Int) + (z1 : Int)) (by omega), IntWalk.i64_in ((v : Int) + (z1 : Int) + (z2 : Int)) (by omega), IntWalk.i64_in ((v : Int) + (z1 : Int) + (z2 : Int) + (z3 : Int)) (by omega), IntWalk.i64_in ((v : Int) + (z1 : Int) + (z2 : Int) + (z3 : Int) + (z4 : Int)) (by omega)]; go_num, HBN.out⟩
      case measure => simp [intOf]; omega
    · have i1 : ¬ ((k : Int) < (tx.length : Int)) := by omega
      obtain rfl : k = tx.length := by omega
      go_wp2_with fail
      go_ret2
      exact ⟨rfl, hb⟩
end Go.Proofs.YtnkdaehmdcpafaaDoor
