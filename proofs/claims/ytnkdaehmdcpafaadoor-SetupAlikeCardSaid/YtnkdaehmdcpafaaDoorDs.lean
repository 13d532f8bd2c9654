/-
  CONTRACTS OF PACKAGE expr's Same, and of slices.EqualFunc as it calls it: whether two trees in memory are the same; the memory that was there stays as it was. No condition.
-/
import Derived.Test.YtnkdaehmdcpafaaDoorDy
namespace Go.Proofs.YtnkdaehmdcpafaaDoor
open Go.RowKit
set_option linter.unusedVariables false
set_option maxRecDepth 100000 in
theorem eqf_any (d : Nat) (ih : ∀ (e f : Ex) (v u : Value) (lo hi lo' hi' : Nat) (w : World), At w lo hi d v e → At w lo' hi' d u f → hi ≤ w.heap.size → hi' ≤ w.heap.size →
      Calls Tryd.prog 74 #[v, u] w fun r w' => r = .returned (.bool (sameF d e f)) ∧ Below w.heap.size w w')
    (args brgs : List Ex) (A B : Option Addr) (c c' lo hi lo' hi' : Nat) (w : World) (hk : Kids w lo hi d A args) (hk' : Kids w lo' hi' d B brgs) (hhi : hi ≤ w.heap.size) (hhi' : hi' ≤ w.heap.size) (q4 : args.length ≤ 9223372036854775807) (p4 : brgs.length ≤ 9223372036854775807) :
    Calls Tryd.prog 77 #[.slice A args.length c, .slice B brgs.length c', .func (.func 74) #[] #[]] w fun r w' => r = .returned (.bool (sameL (sameF d) args brgs)) ∧ Below w.heap.size w w' := by
  have HK := Lib.hid hk
  have HK' := Lib.hid hk'
  have IH := Lib.hid ih
  clear hk hk' ih
  by_cases e3 : args.length = brgs.length
  · have E3 := Lib.hid e3
    rw [← e3]
    clear e3 p4
    go_enter Tryd.func77, Tryd.ntmps77
    go_wp2_with fail
    go_loopw [17] (fun i wr => ∃ k : Nat, k ≤ args.length ∧ i = .int .i64 k ∧ Hid (sameL (sameF d) args brgs = sameL (sameF d) (args.drop k) (brgs.drop k)) ∧ Below w.heap.size w wr) (fun i _ => args.length - (intOf i).toNat)
    case atStart => exact ⟨0, by omega, rfl, rfl, Below.refl _ _⟩
    case round =>
      obtain ⟨k, hk, rfl, hall, hb⟩ := hrel
      by_cases hlt : k < args.length
      · obtain ⟨a, x, y, z, rfl, m1, m2, g0, g1, g2, hA⟩ := HK.out.below hb (by omega) k hlt
        obtain ⟨a', x', y', z', rfl, m1', m2', g0', g1', g2', hA'⟩ := HK'.out.below hb (by omega) k (by rw [← E3.out]; exact hlt)
        obtain ⟨o1, n1, A1, l1, c1, rfl, rfl, rfl⟩ := hA.form
        obtain ⟨o2, n2, A2, l2, c2, rfl, rfl, rfl⟩ := hA'.form
        have bx := boxed_below wr (.int .u8 o1) (.int .i64 n1) (.slice A1 l1 c1)
        have bx2 := bx.trans ((boxed_below (wr.alloc (.cells #[.int .u8 o1, .int .i64 n1, .slice A1 l1 c1] 37)) (.int .u8 o2) (.int .i64 n2) (.slice A2 l2 c2)).mono bx.size)
        have hd := sameL_drop (sameF d) args brgs k hlt (by rw [← E3.out]; exact hlt)
        rw [hd] at hall
        have hz := hb.size
        have hz2 := bx2.size
        have HI := Lib.hid (IH.out args[k] (brgs[k]'(by rw [← E3.out]; exact hlt)) _ _ _ _ _ _ _ (hA.below bx2 (by omega)) (hA'.below bx2 (by omega)) (by omega) (by omega))
        have h1 : (wr.alloc (.cells #[.int .u8 o1, .int .i64 n1, .slice A1 l1 c1] 37)).cell? (a'.add (k * 3)) = some (.int .u8 o2) := (bx.cell (by rw [ad_block]; omega)).trans g0'
        have h2 : (wr.alloc (.cells #[.int .u8 o1, .int .i64 n1, .slice A1 l1 c1] 37)).cell? ⟨(a'.add (k * 3)).block, (a'.add (k * 3)).off + 1, none⟩ = some (.int .i64 n2) := (bx.cell (by show (a'.add (k * 3)).block < _; rw [ad_block]; omega)).trans g1'
        have h3 : (wr.alloc (.cells #[.int .u8 o1, .int .i64 n1, .slice A1 l1 c1] 37)).cell? ⟨(a'.add (k * 3)).block, (a'.add (k * 3)).off + 2, none⟩ = some (.slice A2 l2 c2) := (bx.cell (by show (a'.add (k * 3)).block < _; rw [ad_block]; omega)).trans g2'
        have HX := Lib.hid bx2
        have i1 : (0 : Int) ≤ (k : Int) := by omega
        have i2 : (k : Int) < (args.length : Int) := by omega
        clear hA hA' hd bx bx2 hz hz2 g0' g1' g2'
        obtain ⟨bv, hbv⟩ : ∃ bv, bv = sameF d args[k] (brgs[k]'(by rw [← E3.out]; exact hlt)) := ⟨_, rfl⟩
        rw [← hbv] at HI hall
        clear hbv
        cases bv with
        | true =>
          have HA2 : Hid (sameL (sameF d) args brgs = sameL (sameF d) (args.drop (k + 1)) (brgs.drop (k + 1))) := hall
          clear hall
          go_wp2_with fail
          refine HI.out.mono ?_
          rintro r w5 ⟨rfl, b5⟩
          go_wp2_with fail
          go_roundw
          case rel => exact ⟨k + 1, by omega, by go_num, HA2, hb.trans ((HX.out.trans (b5.mono HX.out.size)).mono hb.size)⟩
          case measure => simp [intOf]; omega
        | false =>
          have HA2 : Hid (sameL (sameF d) args brgs = false) := hall
          clear hall
          go_wp2_with fail
          refine HI.out.mono ?_
          rintro r w5 ⟨rfl, b5⟩
          go_wp2_with fail
          go_ret
          exact ⟨by rw [HA2.out]; rfl, hb.trans ((HX.out.trans (b5.mono HX.out.size)).mono hb.size)⟩
      · go_wp2_with fail
        go_ret
        refine ⟨?_, hb⟩
        rw [hall.out, List.drop_eq_nil_of_le (by omega), List.drop_eq_nil_of_le (by rw [← E3.out]; omega)]
        rfl
  · have HS := Lib.hid (sameL_len (sameF d) args brgs e3)
    have e4 : ((args.length : Int) == (brgs.length : Int)) = false := beq_eq_false_iff_ne.2 (by omega)
    clear e3
    go_enter Tryd.func77, Tryd.ntmps77
    go_wp2_with fail
    go_ret
    exact ⟨by rw [HS.out]; rfl, Below.refl _ _⟩

set_option maxRecDepth 100000 in
theorem same_any (d : Nat) : ∀ (e f : Ex) (v u : Value) (lo hi lo' hi' : Nat) (w : World), At w lo hi d v e → At w lo' hi' d u f → hi ≤ w.heap.size → hi' ≤ w.heap.size →
    Calls Tryd.prog 74 #[v, u] w fun r w' => r = .returned (.bool (sameF d e f)) ∧ Below w.heap.size w w' := by
  induction d with
  | zero => intro e f v u lo hi lo' hi' w h; exact h.elim
  | succ d ih =>
    intro e f v u lo hi lo' hi' w h h' hhi hhi'
    obtain ⟨op, n, args⟩ := e
    obtain ⟨oq, m, brgs⟩ := f
    obtain ⟨q1, q2, q3, q4, A, c, rfl, hk⟩ := h.open_
    obtain ⟨p1, p2, p3, p4, B, c', rfl, hk'⟩ := h'.open_
    have b0 : Below w.heap.size w ((w.alloc (.cells #[.int .u8 op, .int .i64 n, .slice A args.length c] 37)).alloc (.cells #[.int .u8 oq, .int .i64 m, .slice B brgs.length c'] 37)) := by go_grown
    have HQ := Lib.hid (eqf_any d ih args brgs A B c c' lo hi lo' hi' _ (Kids.below hk b0 hhi) (Kids.below hk' b0 hhi') (by have := b0.size; omega) (by have := b0.size; omega) q4 p4)
    have HB0 := Lib.hid b0
    clear hk hk' ih h h' b0
    have hs : sameF (d + 1) (.node op n args) (.node oq m brgs) = (decide (op = oq) && (decide (n = m) && sameL (sameF d) args brgs)) := rfl
    by_cases e1 : op = oq
    · by_cases e2 : n = m
      · have HV : Hid (sameF (d + 1) (.node op n args) (.node oq m brgs) = sameL (sameF d) args brgs) := by
          show sameF _ _ _ = _
          rw [hs, decide_eq_true e1, decide_eq_true e2]; rfl
        have t1 : ((op : Int) == (oq : Int)) = true := beq_iff_eq.2 (by omega)
        have t2 : (n == m) = true := beq_iff_eq.2 e2
        obtain ⟨bv, hbv⟩ : ∃ bv, bv = sameL (sameF d) args brgs := ⟨_, rfl⟩
        rw [← hbv] at HV HQ
        clear hs hbv e1 e2
        go_enter Tryd.func74, Tryd.ntmps74
        go_wp2_with fail
        refine HQ.out.mono ?_
        rintro r w5 ⟨rfl, b5⟩
        go_wp2_with fail
        go_ret
        exact ⟨by rw [HV.out]; rfl, HB0.out.trans (b5.mono HB0.out.size)⟩
      · have HV : Hid (sameF (d + 1) (.node op n args) (.node oq m brgs) = false) := by
          show sameF _ _ _ = _
          rw [hs, decide_eq_true e1, decide_eq_false e2]; rfl
        have t1 : ((op : Int) == (oq : Int)) = true := beq_iff_eq.2 (by omega)
        have t2 : (n == m) = false := beq_eq_false_iff_ne.2 e2
        clear hs e1 e2 HQ
        go_enter Tryd.func74, Tryd.ntmps74
        go_wp2_with fail
        go_ret
        exact ⟨by rw [HV.out]; rfl, HB0.out⟩
    · have HV : Hid (sameF (d + 1) (.node op n args) (.node oq m brgs) = false) := by
        show sameF _ _ _ = _
        rw [hs, decide_eq_false e1]; rfl
      have t1 : ((op : Int) == (oq : Int)) = false := beq_eq_false_iff_ne.2 (by omega)
      clear hs e1 HQ
      go_enter Tryd.func74, Tryd.ntmps74
      go_wp2_with fail
      go_ret
      exact ⟨by rw [HV.out]; rfl, HB0.out⟩
end Go.Proofs.YtnkdaehmdcpafaaDoor
