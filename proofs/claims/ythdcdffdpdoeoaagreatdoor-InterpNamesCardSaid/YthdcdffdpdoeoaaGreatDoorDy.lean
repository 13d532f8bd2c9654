/-
  CONTRACTS OF PACKAGE expr's Whole, asksBelow, May, Count: what each answers of a tree in memory; the memory that was there stays as it was. Conditions: as they stand.
-/
import Derived.Test.YthdcdffdpdoeoaaGreatDoorDw
namespace Go.Proofs.YthdcdffdpdoeoaaGreatDoor
set_option maxRecDepth 100000
open Go.RowKit
set_option linter.unusedVariables false
theorem At.form {w : World} {lo hi d : Nat} {x y z : Value} {e : Ex} (h : At w lo hi d (.agg #[x, y, z]) e) : ∃ (o : Nat) (n : Int) (A : Option Addr) (l c : Nat), x = .int .u8 o ∧ y = .int .i64 n ∧ z = .slice A l c := by
  cases d with
  | zero => exact h.elim
  | succ d =>
    obtain ⟨op, n, args⟩ := e
    obtain ⟨q1, q2, q3, q4, A, c, hv, hk⟩ := h.open_
    simp only [Value.agg.injEq, Array.mk.injEq, List.cons.injEq, and_true] at hv
    exact ⟨_, _, _, _, _, hv.1, hv.2.1, hv.2.2⟩
set_option maxRecDepth 100000 in
theorem Whole_any (d : Nat) (e : Ex) (v : Value) (lo hi : Nat) (w : World) (h : At w lo hi d v e) (hhi : hi ≤ w.heap.size) :
    Calls Tryz.prog 65 #[v] w fun r w' => r = .returned (.bool (wholeF 6 e)) ∧ Below w.heap.size w w' := by
  obtain ⟨d, rfl⟩ : ∃ q, d = q + 1 := by
    cases d with
    | zero => exact h.elim
    | succ q => exact ⟨q, rfl⟩
  obtain ⟨op, n, args⟩ := e
  have hh := h
  obtain ⟨q1, q2, q3, q4, A, c, rfl, hk⟩ := h.open_
  have b0 := boxed_below w (.int .u8 op) (.int .i64 n) (.slice A args.length c)
  have HM := Lib.hid (whole_any 6 (by omega) (d + 1) _ _ lo hi _ (hh.below b0 hhi) (by simp; omega))
  have HB0 := Lib.hid b0
  clear hk hh h b0
  go_enter Tryz.func65, Tryz.ntmps65
  go_wp2_with fail
  refine HM.out.mono ?_
  rintro r w5 ⟨rfl, b5⟩
  go_wp2_with fail
  go_ret
  exact ⟨rfl, HB0.out.trans (b5.mono HB0.out.size)⟩

set_option maxRecDepth 100000 in
theorem below_any (d : Nat) (m : Int) (hm0 : -9223372036854775808 ≤ m) (hm1 : m < 9223372036854775808) : ∀ (e : Ex) (v : Value) (lo hi : Nat) (w : World), At w lo hi d v e → hi ≤ w.heap.size →
    Calls Tryz.prog 118 #[v, .int .i64 m] w fun r w' => r = .returned (.bool (belowF d e m)) ∧ Below w.heap.size w w' := by
  induction d with
  | zero => intro e v lo hi w h; exact h.elim
  | succ d ih =>
    intro e v lo hi w h hhi
    obtain ⟨op, n, args⟩ := e
    obtain ⟨q1, q2, q3, q4, A, c, rfl, hk⟩ := h.open_
    have HK := Lib.hid hk
    have IH := Lib.hid ih
    have hbox := Boxed.new w (.int .u8 op) (.int .i64 n) (.slice A args.length c)
    have b0 : Below w.heap.size w (w.alloc (.cells #[.int .u8 op, .int .i64 n, .slice A args.length c] 40)) := by go_grown
    have z0 : w.heap.size < (w.alloc (.cells #[.int .u8 op, .int .i64 n, .slice A args.length c] 40)).heap.size := by simp
    have hlen : args.length ≤ 9223372036854775807 := q4
    clear hk ih q4 h
    by_cases hbad : op = 3 ∧ m ≤ n
    · have hv : belowF (d + 1) (.node op n args) m = false := by simp [belowF, hbad.1, hbad.2]
      have HV := Lib.hid hv
      obtain ⟨e1, e2⟩ := hbad
      have t1 : ((op : Int) == 3) = true := by simp; omega
      have HB0 := Lib.hid b0
      clear hv e1 hbox z0 b0
      go_enter Tryz.func118, Tryz.ntmps118
      go_wp2_with fail
      go_ret
      exact ⟨by rw [HV.out]; rfl, HB0.out⟩
    · have hv : belowF (d + 1) (.node op n args) m = args.all fun e => belowF d e m := by
        rw [belowF]
        by_cases e1 : op = 3
        · rw [decide_eq_true e1, decide_eq_false (fun h => hbad ⟨e1, h⟩)]; rfl
        · rw [decide_eq_false e1]; rfl
      have HV := Lib.hid hv
      have ht : ((op : Int) == 3) = false ∨ (((op : Int) == 3) = true ∧ decide (m ≤ n) = false) := by
        by_cases e1 : op = 3
        · exact .inr ⟨by simp; omega, decide_eq_false (fun h => hbad ⟨e1, h⟩)⟩
        · exact .inl (by simp; omega)
      have HBX := Lib.hid hbox
      have HB0 := Lib.hid b0
      have HZ0 := Lib.hid z0
      clear hv hbad hbox b0 z0
      rcases ht with t1 | ⟨t1, t2⟩
      all_goals
        go_enter Tryz.func118, Tryz.ntmps118
        go_wp2_with fail
        have b0 := HB0.out
        have z0 := HZ0.out
        obtain ⟨W, hW⟩ : ∃ W, W = w.alloc (.cells #[.int .u8 op, .int .i64 n, .slice A args.length c] 40) := ⟨_, rfl⟩
        have hbx1 : Hid (Boxed W w.heap.size (.int .u8 op) (.int .i64 n) (.slice A args.length c)) := by rw [hW]; exact HBX.out
        rw [← hW] at b0 z0 ⊢
        have HK2 := Lib.hid (HK.out.below b0 hhi)
        clear hW HK HB0 HZ0 HBX
        go_loopw [19] (fun i wr => ∃ k : Nat, k ≤ args.length ∧ i = .int .i64 k ∧ Hid ((args.all fun e => belowF d e m) = (args.drop k).all fun e => belowF d e m) ∧ Below W.heap.size W wr) (fun i _ => args.length - (intOf i).toNat)
        case atStart => exact ⟨0, by omega, rfl, rfl, Below.refl _ _⟩
        case round =>
          obtain ⟨k, hk, rfl, hall, hb⟩ := hrel
          have f2 := (hbx1.out.below hb z0).c2
          by_cases hlt : k < args.length
          · obtain ⟨a, x, y, z, rfl, m1, m2, g0, g1, g2, hA⟩ := HK2.out.below hb (by omega) k hlt
            obtain ⟨o', n', A', l', c', rfl, rfl, rfl⟩ := hA.form
            have bx := boxed_below wr (.int .u8 o') (.int .i64 n') (.slice A' l' c')
            have HI := Lib.hid (IH.out args[k] _ _ _ _ (hA.below bx (by have := hb.size; omega)) (by have := hb.size; have := bx.size; omega))
            have HX := Lib.hid bx
            clear bx
            have hd : (args.drop k).all (fun e => belowF d e m) = (belowF d args[k] m && (args.drop (k + 1)).all fun e => belowF d e m) := by rw [List.drop_eq_getElem_cons hlt]; rfl
            rw [hd] at hall
            clear hA hd
            cases hj : belowF d args[k] m with
            | true =>
              rw [hj] at HI hall
              have HA2 : Hid ((args.all fun e => belowF d e m) = (args.drop (k + 1)).all fun e => belowF d e m) := hall
              clear hj hall
              go_wp2_with fail
              refine HI.out.mono ?_
              rintro r w5 ⟨rfl, b5⟩
              go_wp2_with fail
              go_roundw
              case rel => exact ⟨k + 1, by omega, by go_num, HA2, hb.trans ((HX.out.trans (b5.mono HX.out.size)).mono hb.size)⟩
              case measure => simp [intOf]; omega
            | false =>
              rw [hj] at HI hall
              have HA2 : Hid ((args.all fun e => belowF d e m) = false) := hall
              clear hj hall
              go_wp2_with fail
              refine HI.out.mono ?_
              rintro r w5 ⟨rfl, b5⟩
              go_wp2_with fail
              go_ret
              exact ⟨by rw [HV.out, HA2.out]; rfl, b0.trans ((hb.trans ((HX.out.trans (b5.mono HX.out.size)).mono hb.size)).mono b0.size)⟩
          · go_wp2_with fail
            go_ret
            refine ⟨?_, b0.trans (hb.mono b0.size)⟩
            rw [HV.out, hall.out, List.drop_eq_nil_of_le (by omega)]
            rfl

set_option maxRecDepth 100000 in
theorem may_any (d : Nat) (e : Ex) (v : Value) (lo hi : Nat) (m : Int) (hm0 : -9223372036854775808 ≤ m) (hm1 : m < 9223372036854775808) (w : World) (h : At w lo hi d v e) (hhi : hi ≤ w.heap.size) :
    Calls Tryz.prog 111 #[v, .int .i64 m] w fun r w' => r = .returned (.bool (wholeF 6 e && belowF d e m)) ∧ Below w.heap.size w w' := by
  obtain ⟨d, rfl⟩ : ∃ q, d = q + 1 := by
    cases d with
    | zero => exact h.elim
    | succ q => exact ⟨q, rfl⟩
  obtain ⟨op, n, args⟩ := e
  have hh := h
  obtain ⟨q1, q2, q3, q4, A, c, rfl, hk⟩ := h.open_
  have b0 := boxed_below w (.int .u8 op) (.int .i64 n) (.slice A args.length c)
  have hbx := Boxed.new w (.int .u8 op) (.int .i64 n) (.slice A args.length c)
  have z0 : w.heap.size < (w.alloc (.cells #[.int .u8 op, .int .i64 n, .slice A args.length c] 40)).heap.size := by simp
  have hA := hh.below b0 hhi
  have HM := Lib.hid (Whole_any (d + 1) _ _ lo hi _ hA (by simp; omega))
  have HN : Hid (∀ W', Below (w.alloc (.cells #[.int .u8 op, .int .i64 n, .slice A args.length c] 40)).heap.size (w.alloc (.cells #[.int .u8 op, .int .i64 n, .slice A args.length c] 40)) W' → Calls Tryz.prog 118 #[.agg #[.int .u8 op, .int .i64 n, .slice A args.length c], .int .i64 m] W' fun r w' => r = .returned (.bool (belowF (d + 1) (.node op n args) m)) ∧ Below W'.heap.size W' w') :=
    fun W' h' => below_any (d + 1) m hm0 hm1 _ _ lo hi W' (hA.below h' (by simp; omega)) (by have := h'.size; simp at this; omega)
  have HB0 := Lib.hid b0
  have HBX := Lib.hid hbx
  have HZ0 := Lib.hid z0
  obtain ⟨e, he⟩ : ∃ e, e = Ex.node op n args := ⟨_, rfl⟩
  rw [← he] at HM HN ⊢
  clear hk hh h b0 hbx z0 hA he
  cases hv : wholeF 6 e with
  | false =>
    rw [hv] at HM
    clear hv
    go_enter Tryz.func111, Tryz.ntmps111
    go_wp2_with fail
    refine HM.out.mono ?_
    rintro r w5 ⟨rfl, b5⟩
    go_wp2_with fail
    go_ret
    exact ⟨rfl, HB0.out.trans (b5.mono HB0.out.size)⟩
  | true =>
    rw [hv] at HM
    clear hv
    go_enter Tryz.func111, Tryz.ntmps111
    go_wp2_with fail
    refine HM.out.mono ?_
    rintro r w5 ⟨rfl, b5⟩
    have g0 := (HBX.out.below b5 HZ0.out).c0
    have g1 := (HBX.out.below b5 HZ0.out).c1
    have g2 := (HBX.out.below b5 HZ0.out).c2
    go_wp2_with fail
    refine (HN.out w5 b5).mono ?_
    rintro r w6 ⟨rfl, b6⟩
    go_wp2_with fail
    go_ret
    exact ⟨rfl, HB0.out.trans ((b5.trans (b6.mono b5.size)).mono HB0.out.size)⟩

set_option maxRecDepth 100000 in
theorem count_any (d : Nat) : ∀ (e : Ex) (v : Value) (lo hi : Nat) (w : World), At w lo hi d v e → hi ≤ w.heap.size → cnt d e ≤ 100000 →
    Calls Tryz.prog 93 #[v] w fun r w' => r = .returned (.int .i64 (cnt d e : Nat)) ∧ Below w.heap.size w w' := by
  induction d with
  | zero => intro e v lo hi w h; exact h.elim
  | succ d ih =>
    intro e v lo hi w h hhi hc
    obtain ⟨op, n, args⟩ := e
    obtain ⟨q1, q2, q3, q4, A, c, rfl, hk⟩ := h.open_
    have HK := Lib.hid hk
    have IH := Lib.hid ih
    have hbox := Lib.hid (Boxed.new w (.int .u8 op) (.int .i64 n) (.slice A args.length c))
    have hsum : 1 + (args.map (cnt d)).sum ≤ 100000 := hc
    have hlen : args.length ≤ 9223372036854775807 := q4
    clear hk ih hc q4 h
    go_enter Tryz.func93, Tryz.ntmps93
    go_wp2_with fail
    have b0 : Below w.heap.size w (w.alloc (.cells #[.int .u8 op, .int .i64 n, .slice A args.length c] 40)) := by go_grown
    have z0 : w.heap.size < (w.alloc (.cells #[.int .u8 op, .int .i64 n, .slice A args.length c] 40)).heap.size := by simp
    obtain ⟨W, hW⟩ : ∃ W, W = w.alloc (.cells #[.int .u8 op, .int .i64 n, .slice A args.length c] 40) := ⟨_, rfl⟩
    rw [← hW] at b0 z0 hbox ⊢
    have HK2 := Lib.hid (HK.out.below b0 hhi)
    clear hW HK
    go_loopw [3, 9] (fun a i wr => ∃ k : Nat, k ≤ args.length ∧ i = .int .i64 k ∧ a = .int .i64 (1 + ((args.take k).map (cnt d)).sum : Nat) ∧ Below W.heap.size W wr) (fun _ i _ => args.length - (intOf i).toNat)
    case atStart => exact ⟨0, by omega, rfl, rfl, Below.refl _ _⟩
    case round =>
      obtain ⟨k, hk, rfl, rfl, hb⟩ := hrel
      have hbx := hbox.out.below hb z0
      have f2 := hbx.c2
      clear hbx
      by_cases hlt : k < args.length
      · obtain ⟨a, x, y, z, rfl, m1, m2, g0, g1, g2, hA⟩ := HK2.out.below hb (by omega) k hlt
        have s1 := sum_take (cnt d) args k hlt
        have s2 := sum_le (cnt d) args (k + 1)
        obtain ⟨o', n', A', l', c', rfl, rfl, rfl⟩ := hA.form
        have bx := boxed_below wr (.int .u8 o') (.int .i64 n') (.slice A' l' c')
        have HI := Lib.hid (IH.out args[k] _ _ _ _ (hA.below bx (by have := hb.size; omega)) (by have := hb.size; have := bx.size; omega) (by omega))
        have HX := Lib.hid bx
        clear bx
        obtain ⟨j, hj⟩ : ∃ j, j = cnt d args[k] := ⟨_, rfl⟩
        obtain ⟨u, hu⟩ : ∃ u, u = ((args.take k).map (cnt d)).sum := ⟨_, rfl⟩
        rw [← hj] at s1 HI
        rw [← hu] at s1 ⊢
        have k1 : u + j ≤ 100000 := by omega
        have HS := Lib.hid s1
        clear s1 s2 hj hu hA
        go_wp2_with fail
        refine HI.out.mono ?_
        rintro r w5 ⟨rfl, b5⟩
        go_wp2_with fail
        go_roundw
        case rel => exact ⟨k + 1, by omega, by go_num, by rw [HS.out]; go_num, hb.trans ((HX.out.trans (b5.mono HX.out.size)).mono hb.size)⟩
        case measure => simp [intOf]; omega
      · go_wp2_with fail
        go_ret
        refine ⟨?_, b0.trans (hb.mono b0.size)⟩
        rw [cnt, ← List.take_of_length_le (show args.length ≤ k by omega)]
        exact ret_n (by rw [List.take_take, Nat.min_self])

end Go.Proofs.YthdcdffdpdoeoaaGreatDoor
