/-
  CONTRACTS OF seesawref04 (the document's own answers of layer 4): what each call answers of a tree in memory; the memory that was there stays as it was. Conditions: as they stand.
-/
import Derived.Test.YtnkdaehmdcpafaaDoorEb
import Derived.LoopTactic
import Derived.Handy
import Derived.WalkLawsBesides
import Derived.WalkSpells
import Derived.Deep.RegionHeld3
namespace Go.Proofs.YtnkdaehmdcpafaaDoor
open Go.RowKit
set_option linter.unusedVariables false

set_option maxRecDepth 100000 in
theorem rcount_any (d : Nat) : ∀ (e : Ex) (v : Value) (lo hi : Nat) (w : World), At w lo hi d v e → hi ≤ w.heap.size → cnt d e ≤ 100000 →
    Calls Tryd.prog 71 #[v] w fun r w' => r = .returned (.int .i64 (cnt d e : Nat)) ∧ Below w.heap.size w w' := by
  induction d with
  | zero => intro e v lo hi w h; exact h.elim
  | succ d ih =>
    intro e v lo hi w h hhi hc
    obtain ⟨op, n, args⟩ := e
    obtain ⟨q1, q2, q3, q4, A, c, rfl, hk⟩ := h.open_
    have HK := Lib.hid hk
    have IH := Lib.hid ih
    have hbox := Lib.hid (Boxed.new w (.int .u8 op) (.int .i64 n) (.slice A args.length c))
    have hsum : 1 + (args.map (cnt d)).sum ≤ 100000 := hc
    have hlen : args.length ≤ 9223372036854775807 := q4
    clear hk ih hc q4 h
    go_enter Tryd.func71, Tryd.ntmps71
    go_wp2_with fail
    have b0 : Below w.heap.size w (w.alloc (.cells #[.int .u8 op, .int .i64 n, .slice A args.length c] 37)) := by go_grown
    have z0 : w.heap.size < (w.alloc (.cells #[.int .u8 op, .int .i64 n, .slice A args.length c] 37)).heap.size := by simp
    obtain ⟨W, hW⟩ : ∃ W, W = w.alloc (.cells #[.int .u8 op, .int .i64 n, .slice A args.length c] 37) := ⟨_, rfl⟩
    rw [← hW] at b0 z0 hbox ⊢
    have HK2 := Lib.hid (HK.out.below b0 hhi)
    clear hW HK
    go_loopw [3, 4] (fun a i wr => ∃ k : Nat, k ≤ args.length ∧ i = .int .i64 k ∧ a = .int .i64 (1 + ((args.take k).map (cnt d)).sum : Nat) ∧ Below W.heap.size W wr) (fun _ i _ => args.length - (intOf i).toNat)
    case atStart => exact ⟨0, by omega, rfl, rfl, Below.refl _ _⟩
    case round =>
      obtain ⟨k, hk, rfl, rfl, hb⟩ := hrel
      have hbx := hbox.out.below hb z0
      have f2 := hbx.c2
      clear hbx
      by_cases hlt : k < args.length
      · obtain ⟨a, x, y, z, rfl, m1, m2, g0, g1, g2, hA⟩ := HK2.out.below hb (by omega) k hlt
        have s1 := sum_take (cnt d) args k hlt
        have s2 := sum_le (cnt d) args (k + 1)
        have HI := Lib.hid (IH.out args[k] _ _ _ wr hA (by have := hb.size; omega) (by omega))
        obtain ⟨j, hj⟩ : ∃ j, j = cnt d args[k] := ⟨_, rfl⟩
        obtain ⟨u, hu⟩ : ∃ u, u = ((args.take k).map (cnt d)).sum := ⟨_, rfl⟩
        rw [← hj] at s1 HI
        rw [← hu] at s1 ⊢
        have k1 : u + j ≤ 100000 := by omega
        have HS := Lib.hid s1
        clear s1 s2 hj hu hA
        go_wp2_with fail
        refine HI.out.mono ?_
        rintro r w5 ⟨rfl, b5⟩
        go_wp2_with fail
        go_roundw
        case rel => exact ⟨k + 1, by omega, by go_num, by rw [HS.out]; go_num, hb.trans (b5.mono hb.size)⟩
        case measure => simp [intOf]; omega
      · go_wp2_with fail
        go_ret
        refine ⟨?_, b0.trans (hb.mono b0.size)⟩
        rw [cnt, ← List.take_of_length_le (show args.length ≤ k by omega)]
        exact ret_n (by rw [List.take_take, Nat.min_self])

set_option maxRecDepth 100000 in
theorem rbelow_any (d : Nat) (m : Int) (hm0 : -9223372036854775808 ≤ m) (hm1 : m < 9223372036854775808) : ∀ (e : Ex) (v : Value) (lo hi : Nat) (w : World), At w lo hi d v e → hi ≤ w.heap.size →
    Calls Tryd.prog 73 #[v, .int .i64 m] w fun r w' => r = .returned (.bool (belowF d e m)) ∧ Below w.heap.size w w' := by
  induction d with
  | zero => intro e v lo hi w h; exact h.elim
  | succ d ih =>
    intro e v lo hi w h hhi
    obtain ⟨op, n, args⟩ := e
    obtain ⟨q1, q2, q3, q4, A, c, rfl, hk⟩ := h.open_
    have HK := Lib.hid hk
    have IH := Lib.hid ih
    have hbox := Boxed.new w (.int .u8 op) (.int .i64 n) (.slice A args.length c)
    have b0 : Below w.heap.size w (w.alloc (.cells #[.int .u8 op, .int .i64 n, .slice A args.length c] 37)) := by go_grown
    have z0 : w.heap.size < (w.alloc (.cells #[.int .u8 op, .int .i64 n, .slice A args.length c] 37)).heap.size := by simp
    have hlen : args.length ≤ 9223372036854775807 := q4
    clear hk ih q4 h
    by_cases hbad : op = 3 ∧ m ≤ n
    · have hv : belowF (d + 1) (.node op n args) m = false := by simp [belowF, hbad.1, hbad.2]
      have HV := Lib.hid hv
      obtain ⟨e1, e2⟩ := hbad
      have t1 : ((op : Int) == 3) = true := by simp; omega
      have HB0 := Lib.hid b0
      clear hv e1 hbox z0 b0
      go_enter Tryd.func73, Tryd.ntmps73
      go_wp2_with fail
      go_ret
      exact ⟨by rw [HV.out]; rfl, HB0.out⟩
    · have hv : belowF (d + 1) (.node op n args) m = args.all fun e => belowF d e m := by
        rw [belowF]
        by_cases e1 : op = 3
        · rw [decide_eq_true e1, decide_eq_false (fun h => hbad ⟨e1, h⟩)]; rfl
        · rw [decide_eq_false e1]; rfl
      have HV := Lib.hid hv
      have ht : ((op : Int) == 3) = false ∨ (((op : Int) == 3) = true ∧ decide (m ≤ n) = false) := by
        by_cases e1 : op = 3
        · exact .inr ⟨by simp; omega, decide_eq_false (fun h => hbad ⟨e1, h⟩)⟩
        · exact .inl (by simp; omega)
      have HBX := Lib.hid hbox
      have HB0 := Lib.hid b0
      have HZ0 := Lib.hid z0
      clear hv hbad hbox b0 z0
      rcases ht with t1 | ⟨t1, t2⟩
      all_goals
        go_enter Tryd.func73, Tryd.ntmps73
        go_wp2_with fail
        have b0 := HB0.out
        have z0 := HZ0.out
        obtain ⟨W, hW⟩ : ∃ W, W = w.alloc (.cells #[.int .u8 op, .int .i64 n, .slice A args.length c] 37) := ⟨_, rfl⟩
        have hbx1 : Hid (Boxed W w.heap.size (.int .u8 op) (.int .i64 n) (.slice A args.length c)) := by rw [hW]; exact HBX.out
        rw [← hW] at b0 z0 ⊢
        have HK2 := Lib.hid (HK.out.below b0 hhi)
        clear hW HK HB0 HZ0 HBX
        go_loopw [5] (fun i wr => ∃ k : Nat, k ≤ args.length ∧ i = .int .i64 k ∧ Hid ((args.all fun e => belowF d e m) = (args.drop k).all fun e => belowF d e m) ∧ Below W.heap.size W wr) (fun i _ => args.length - (intOf i).toNat)
        case atStart => exact ⟨0, by omega, rfl, rfl, Below.refl _ _⟩
        case round =>
          obtain ⟨k, hk, rfl, hall, hb⟩ := hrel
          have f2 := (hbx1.out.below hb z0).c2
          by_cases hlt : k < args.length
          · obtain ⟨a, x, y, z, rfl, m1, m2, g0, g1, g2, hA⟩ := HK2.out.below hb (by omega) k hlt
            have HI := Lib.hid (IH.out args[k] _ _ _ wr hA (by have := hb.size; omega))
            have hd : (args.drop k).all (fun e => belowF d e m) = (belowF d args[k] m && (args.drop (k + 1)).all fun e => belowF d e m) := by rw [List.drop_eq_getElem_cons hlt]; rfl
            rw [hd] at hall
            clear hA hd
            cases hj : belowF d args[k] m with
            | true =>
              rw [hj] at HI hall
              have HA2 : Hid ((args.all fun e => belowF d e m) = (args.drop (k + 1)).all fun e => belowF d e m) := hall
              clear hj hall
              go_wp2_with fail
              refine HI.out.mono ?_
              rintro r w5 ⟨rfl, b5⟩
              go_wp2_with fail
              go_roundw
              case rel => exact ⟨k + 1, by omega, by go_num, HA2, hb.trans (b5.mono hb.size)⟩
              case measure => simp [intOf]; omega
            | false =>
              rw [hj] at HI hall
              have HA2 : Hid ((args.all fun e => belowF d e m) = false) := hall
              clear hj hall
              go_wp2_with fail
              refine HI.out.mono ?_
              rintro r w5 ⟨rfl, b5⟩
              go_wp2_with fail
              go_ret
              exact ⟨by rw [HV.out, HA2.out]; rfl, b0.trans ((hb.trans (b5.mono hb.size)).mono b0.size)⟩
          · go_wp2_with fail
            go_ret
            refine ⟨?_, b0.trans (hb.mono b0.size)⟩
            rw [HV.out, hall.out, List.drop_eq_nil_of_le (by omega)]
            rfl

set_option maxRecDepth 100000 in
theorem rsame_any (d : Nat) : ∀ (e f : Ex) (v u : Value) (lo hi lo' hi' : Nat) (w : World), At w lo hi d v e → At w lo' hi' d u f → hi ≤ w.heap.size → hi' ≤ w.heap.size →
    Calls Tryd.prog 57 #[v, u] w fun r w' => r = .returned (.bool (sameF d e f)) ∧ Below w.heap.size w w' := by
  induction d with
  | zero => intro e f v u lo hi lo' hi' w h; exact h.elim
  | succ d ih =>
    intro e f v u lo hi lo' hi' w h h' hhi hhi'
    obtain ⟨op, n, args⟩ := e
    obtain ⟨oq, m, brgs⟩ := f
    obtain ⟨q1, q2, q3, q4, A, c, rfl, hk⟩ := h.open_
    obtain ⟨p1, p2, p3, p4, B, c', rfl, hk'⟩ := h'.open_
    have b0 : Below w.heap.size w ((w.alloc (.cells #[.int .u8 op, .int .i64 n, .slice A args.length c] 37)).alloc (.cells #[.int .u8 oq, .int .i64 m, .slice B brgs.length c'] 37)) := by go_grown
    have HK := Lib.hid (Kids.below hk b0 hhi)
    have HK' := Lib.hid (Kids.below hk' b0 hhi')
    have IH := Lib.hid ih
    have hbox := Boxed.new w (.int .u8 op) (.int .i64 n) (.slice A args.length c)
    have hbox' := Boxed.new (w.alloc (.cells #[.int .u8 op, .int .i64 n, .slice A args.length c] 37)) (.int .u8 oq) (.int .i64 m) (.slice B brgs.length c')
    have hboxA : Hid (Boxed ((w.alloc (.cells #[.int .u8 op, .int .i64 n, .slice A args.length c] 37)).alloc (.cells #[.int .u8 oq, .int .i64 m, .slice B brgs.length c'] 37)) w.heap.size (.int .u8 op) (.int .i64 n) (.slice A args.length c)) :=
      hbox.below (B := w.heap.size + 1) ((Below.refl _ _).alloc (by simp) _) (by omega)
    have hboxB : Hid (Boxed ((w.alloc (.cells #[.int .u8 op, .int .i64 n, .slice A args.length c] 37)).alloc (.cells #[.int .u8 oq, .int .i64 m, .slice B brgs.length c'] 37)) (w.heap.size + 1) (.int .u8 oq) (.int .i64 m) (.slice B brgs.length c')) := by
      have hz : (w.alloc (.cells #[.int .u8 op, .int .i64 n, .slice A args.length c] 37)).heap.size = w.heap.size + 1 := by simp
      rw [hz] at hbox'
      exact hbox'
    have HZ0 : Hid (w.heap.size + 1 < ((w.alloc (.cells #[.int .u8 op, .int .i64 n, .slice A args.length c] 37)).alloc (.cells #[.int .u8 oq, .int .i64 m, .slice B brgs.length c'] 37)).heap.size) := by
      show _ < _
      simp
    have HB0 := Lib.hid b0
    clear hk hk' ih h h' hbox hbox' b0
    by_cases e1 : op = oq
    · by_cases e2 : n = m
      · by_cases e3 : args.length = brgs.length
        · have HV : Hid (sameF (d + 1) (.node op n args) (.node oq m brgs) = sameL (sameF d) args brgs) := by
            show sameF _ _ _ = _
            rw [sameF, decide_eq_true e1, decide_eq_true e2]; rfl
          subst e1
          subst e2
          have E3 := Lib.hid e3
          rw [← e3] at hboxB ⊢
          rw [← e3] at HB0 HK HK' HZ0 hboxA
          have hlen : args.length ≤ 9223372036854775807 := q4
          clear e3 q4 p4
          go_enter Tryd.func57, Tryd.ntmps57
          go_wp2_with fail
          have b0 := HB0.out
          have z0 := HZ0.out
          obtain ⟨W, hW⟩ : ∃ W, W = ((w.alloc (.cells #[.int .u8 op, .int .i64 n, .slice A args.length c] 37)).alloc (.cells #[.int .u8 op, .int .i64 n, .slice B args.length c'] 37)) := ⟨_, rfl⟩
          rw [← hW] at b0 z0 HK HK' hboxA hboxB ⊢
          clear hW HB0 HZ0
          go_loopw [5] (fun i wr => ∃ k : Nat, k ≤ args.length ∧ i = .int .i64 k ∧ Hid (sameL (sameF d) args brgs = sameL (sameF d) (args.drop k) (brgs.drop k)) ∧ Below W.heap.size W wr) (fun i _ => args.length - (intOf i).toNat)
          case atStart => exact ⟨0, by omega, rfl, rfl, Below.refl _ _⟩
          case round =>
            obtain ⟨k, hk, rfl, hall, hb⟩ := hrel
            have f2 := (hboxA.out.below hb (by omega)).c2
            have f3 := (hboxB.out.below hb z0).c2
            by_cases hlt : k < args.length
            · obtain ⟨a, x, y, z, rfl, m1, m2, g0, g1, g2, hA⟩ := HK.out.below hb (by omega) k hlt
              obtain ⟨a', x', y', z', rfl, m1', m2', g0', g1', g2', hA'⟩ := HK'.out.below hb (by omega) k (by rw [← E3.out]; exact hlt)
              have HI := Lib.hid (fun W' (hb' : Below wr.heap.size wr W') => IH.out args[k] _ _ _ _ _ _ _ W' (hA.below hb' (by have := hb.size; omega)) (hA'.below hb' (by have := hb.size; omega)) (by have := hb.size; have := hb'.size; omega) (by have := hb.size; have := hb'.size; omega))
              have hd := sameL_drop (sameF d) args brgs k hlt (by rw [← E3.out]; exact hlt)
              rw [hd] at hall
              clear hA hA' hd
              obtain ⟨bv, hbv⟩ : ∃ bv, bv = sameF d args[k] brgs[k] := ⟨_, rfl⟩
              rw [← hbv] at HI hall
              clear hbv
              go_wp2_with fail
              have i1 : (0 : Int) ≤ (k : Int) := by omega
              have i2 : (k : Int) < (args.length : Int) := by omega
              have HW : w.heap.size + 1 < wr.heap.size := by have := hb.size; omega
              have n1 : (a.add (k * 3)).block < wr.heap.size := by rw [ad_block]; have := hb.size; omega
              have n2 : (a'.add (k * 3)).block < wr.heap.size := by rw [ad_block]; have := hb.size; omega
              have hkeep : Hid (∀ w' : World, Below wr.heap.size wr w' → w'.cell? ⟨w.heap.size, 2, none⟩ = some (.slice (some a) args.length c) ∧ w'.cell? ⟨w.heap.size + 1, 2, none⟩ = some (.slice (some a') args.length c') ∧
                  w'.cell? (a.add (k * 3)) = some x ∧ w'.cell? ⟨(a.add (k * 3)).block, (a.add (k * 3)).off + 1, none⟩ = some y ∧ w'.cell? ⟨(a.add (k * 3)).block, (a.add (k * 3)).off + 2, none⟩ = some z ∧
                  w'.cell? (a'.add (k * 3)) = some x' ∧ w'.cell? ⟨(a'.add (k * 3)).block, (a'.add (k * 3)).off + 1, none⟩ = some y' ∧ w'.cell? ⟨(a'.add (k * 3)).block, (a'.add (k * 3)).off + 2, none⟩ = some z') := by
                intro w' h5
                exact ⟨(h5.cell (p := ⟨w.heap.size, 2, none⟩) (by show w.heap.size < _; omega)).trans f2, (h5.cell (p := ⟨w.heap.size + 1, 2, none⟩) HW).trans f3, (h5.cell n1).trans g0, (h5.cell (p := ⟨(a.add (k * 3)).block, _, none⟩) n1).trans g1, (h5.cell (p := ⟨(a.add (k * 3)).block, _, none⟩) n1).trans g2, (h5.cell n2).trans g0', (h5.cell (p := ⟨(a'.add (k * 3)).block, _, none⟩) n2).trans g1', (h5.cell (p := ⟨(a'.add (k * 3)).block, _, none⟩) n2).trans g2'⟩
              clear hk
              go_region_held3 (fun w' => w'.cell? ⟨w.heap.size, 2, none⟩ = some (.slice (some a) args.length c) ∧ w'.cell? ⟨w.heap.size + 1, 2, none⟩ = some (.slice (some a') args.length c') ∧
                  w'.cell? (a.add (k * 3)) = some x ∧ w'.cell? ⟨(a.add (k * 3)).block, (a.add (k * 3)).off + 1, none⟩ = some y ∧ w'.cell? ⟨(a.add (k * 3)).block, (a.add (k * 3)).off + 2, none⟩ = some z ∧
                  w'.cell? (a'.add (k * 3)) = some x' ∧ w'.cell? ⟨(a'.add (k * 3)).block, (a'.add (k * 3)).off + 1, none⟩ = some y' ∧ w'.cell? ⟨(a'.add (k * 3)).block, (a'.add (k * 3)).off + 2, none⟩ = some z')
                (first | exact hkeep.out _ hw5 | exact ⟨f2, f3, g0, g1, g2, g0', g1', g2'⟩ | fail)
                (first | (go_at_call 57; refine (HI.out wr.drew ((Below.refl _ _).drew)).mono ?_; rintro r w5 ⟨rfl, b5⟩; have hw5 : Below wr.heap.size wr w5 := ((Below.refl _ _).drew).trans (b5.mono (by simp))))
              all_goals
                have c5 := hb.trans (hw5.mono hb.size)
                clear hkeep f2 f3 g0 g1 g2 g0' g1' g2' b5 hw5 n1 n2 HW HI
                cases bv with
                | true =>
                  go_wp2_with fail
                  go_roundw
                  case rel => exact ⟨k + 1, by omega, by go_num, hall, c5⟩
                  case measure => simp [intOf]; omega
                | false =>
                  go_wp2_with fail
                  go_ret
                  exact ⟨by rw [HV.out, hall.out]; rfl, b0.trans (c5.mono b0.size)⟩
            · go_wp2_with fail
              go_ret
              refine ⟨?_, b0.trans (hb.mono b0.size)⟩
              rw [HV.out, hall.out, List.drop_eq_nil_of_le (by omega), List.drop_eq_nil_of_le (by have := E3.out; omega)]
              rfl
        · have HV : Hid (sameF (d + 1) (.node op n args) (.node oq m brgs) = false) := by
            show sameF _ _ _ = _
            rw [sameF, sameL_len _ _ _ e3, Bool.and_false, Bool.and_false]
          have t1 : ((op : Int) != oq) = false := by simp; omega
          have t2 : (n != m) = false := by simp; omega
          have t3 : ((args.length : Int) != brgs.length) = true := by simp; omega
          clear e1 e2 e3
          go_enter Tryd.func57, Tryd.ntmps57
          go_wp2_with fail
          go_ret
          exact ⟨by rw [HV.out]; rfl, HB0.out⟩
      · have HV : Hid (sameF (d + 1) (.node op n args) (.node oq m brgs) = false) := by
          show sameF _ _ _ = _
          rw [sameF, decide_eq_false e2, Bool.false_and, Bool.and_false]
        have t1 : ((op : Int) != oq) = false := by simp; omega
        have t2 : (n != m) = true := by simp; omega
        clear e1 e2
        go_enter Tryd.func57, Tryd.ntmps57
        go_wp2_with fail
        go_ret
        exact ⟨by rw [HV.out]; rfl, HB0.out⟩
    · have HV : Hid (sameF (d + 1) (.node op n args) (.node oq m brgs) = false) := by
        show sameF _ _ _ = _
        rw [sameF, decide_eq_false e1, Bool.false_and]
      have t1 : ((op : Int) != oq) = true := by simp; omega
      clear e1
      go_enter Tryd.func57, Tryd.ntmps57
      go_wp2_with fail
      go_ret
      exact ⟨by rw [HV.out]; rfl, HB0.out⟩
end Go.Proofs.YtnkdaehmdcpafaaDoor
