/-
  BytesAnew (P2.5): what is read, written anew, are the bytes that were gone over: the statement holds for every input. Conditions: none beyond the statement's own (texts of at most 5000 bytes).
-/
import Derived.Test.YtieaacenobgdjaaBv
import Derived.Test.YtieaacenobgdjaaLift
import Derived.Deep.DeepCutAuto
import Derived.Deep.CutBlock
namespace Go.Proofs.Ytieaacenobgdjaa
open Go.ChangeShapes Go.WideShapes Go.ChangeAt Go.RowKit Go.ChangeMaps
set_option linter.unusedVariables false

/-- The place behind at most f numbers from place a on. -/
def pos (l : List UInt8) : Nat → Nat → Nat
  | 0, a => a
  | f + 1, a => if (Vm.get (l.drop a)).2.2 = 0 then pos l f (a + (Vm.get (l.drop a)).2.1) else a
theorem pos_go {l : List UInt8} {f a n size : Nat} (h : Vm.get (l.drop a) = (n, size, 0)) : pos l (f + 1) a = pos l f (a + size) := by
  rw [pos, h]; rfl
theorem pos_end {l : List UInt8} {f a n size er : Nat} (h : Vm.get (l.drop a) = (n, size, er)) (he : er ≠ 0) : pos l f a = a := by
  cases f with
  | zero => rfl
  | succ f => rw [pos, h]; simp [he]
theorem take_go {l : List UInt8} {a n size : Nat} (h : Vm.get (l.drop a) = (n, size, 0)) : l.take (a + size) = l.take a ++ Vm.put n := by
  rw [(get_ok h).2.2.2, ← List.take_add]
theorem num_go {s : ByteArray} {a n size : Nat} (h : Vm.get (s.data.toList.drop a) = (n, size, 0)) : rNum 18446744073709551615 s a 0 = ((n : Int), 0, a + size, 0) := by
  have hk := get_ok h
  have e : tNum 18446744073709551615 (s.data.toList.drop a) = ((n : Int), size, 0) := by
    unfold tNum
    rw [h]
    simp only [if_true]
    rw [if_neg (by omega)]
  unfold rNum
  rw [e, rd_k rfl]
theorem num_bad {s : ByteArray} {most : Int} {a n size er : Nat} (h : Vm.get (s.data.toList.drop a) = (n, size, er)) (he : er ≠ 0) : rNum most s a 0 = (0, (er : Int), a, (er : Int)) := by
  have e : tNum most (s.data.toList.drop a) = (0, 0, (er : Int)) := by unfold tNum; rw [h]; simp [he]
  unfold rNum
  rw [e, rd_e (by show (er : Int) ≠ 0; omega)]
theorem int_go {s : ByteArray} {a n size : Nat} (h : Vm.get (s.data.toList.drop a) = (n, size, 0)) : rInt s a 0 = (zagV n, 0, a + size, 0) := by
  have e : tInt (s.data.toList.drop a) = (zagV n, size, 0) := by unfold tInt; rw [h]; simp
  unfold rInt
  rw [e, rd_k rfl]
theorem int_bad {s : ByteArray} {a n size er : Nat} (h : Vm.get (s.data.toList.drop a) = (n, size, er)) (he : er ≠ 0) : rInt s a 0 = (0, (er : Int), a, (er : Int)) := by
  have e : tInt (s.data.toList.drop a) = (0, 0, (er : Int)) := by unfold tInt; rw [h]; simp [he]
  unfold rInt
  rw [e, rd_e (by show (er : Int) ≠ 0; omega)]
theorem zig_zagV (n : Int) (h : 0 ≤ n) : zigV (zagV n) = n := by unfold zigV zagV; split <;> split <;> omega
theorem zagV_rng (n : Nat) (h : n < 18446744073709551616) : -9223372036854775808 ≤ zagV n ∧ zagV n < 9223372036854775808 := by unfold zagV; split <;> omega
theorem fits (most : Int) (l t : List UInt8) (h : (l.length : Int) + t.length ≤ most) : rawL most l t = l ++ t ∧ rawE most l t = 0 := by
  unfold rawL rawE
  rw [if_pos h, if_pos h]
  exact ⟨rfl, rfl⟩

theorem ext_piece0 (s : ByteArray) (n : Nat) : s.extract 0 n = bs (s.data.toList.take n) := by rw [extract_bs]; rfl
theorem Rd.kp {w w' : World} {g g2 : Nat} {s : ByteArray} {a : Nat} {wr : Int} (h : Rd w g2 s a wr) (k : Kp g none w w') (hn : g2 ≠ g) : Rd w' g2 s a wr := ⟨h.1.kp k hn (by simp), h.2⟩
theorem Rd.fr {w w' : World} {B g g2 : Nat} {s : ByteArray} {a : Nat} {wr : Int} (h : Rd w g2 s a wr) (f : Fr B g w w') (hn : g2 ≠ g) (hb : g2 < B) : Rd w' g2 s a wr := ⟨h.1.fr f hn hb, h.2⟩
theorem WrV.kp_rd {w w' : World} {g B gw : Nat} {s : ByteArray} {a : Nat} {wr most : Int} {l : List UInt8} {v : Value} (h : WrV w B gw most l v) (o : Rd w g s a wr) (k : Kp g none w w') : WrV w' B gw most l v :=
  h.same (k.block gw h.1.lt (h.1.unlike o.1 (by decide)) (by simp)) fun r hr => k.block r (h.row_lt r hr).2 (fun e => o.1.unlike_row h.2.1 (by decide) (by rw [hr, e])) (by simp)
theorem Wr.kp_rd {w w' : World} {g B gw : Nat} {s : ByteArray} {a : Nat} {wr most : Int} {l : List UInt8} (h : Wr w B gw most l) (o : Rd w g s a wr) (k : Kp g none w w') : Wr w' B gw most l := by
  obtain ⟨v, hv⟩ := h
  exact ⟨v, hv.kp_rd o k⟩
theorem WrV.fr {w w' : World} {B0 B g gw : Nat} {most : Int} {l : List UInt8} {v : Value} (h : WrV w B0 gw most l v) (f : Fr B g w w') (hn : gw ≠ g) (hb : gw < B) (hr : ∀ r, v.ownBlock = some r → r < B ∧ r ≠ g) : WrV w' B0 gw most l v :=
  h.same (f.block gw h.1.lt hn hb) fun r hr' => f.block r (h.row_lt r hr').2 (hr r hr').2 (hr r hr').1
theorem wrv_nil {w : World} {B B' g : Nat} {most : Int} (h : WrV w B g most [] (.slice none 0 0)) : WrV w B' g most [] (.slice none 0 0) :=
  ⟨h.1, World.ownsRow_nil _ _ _ _, h.2.2⟩
theorem wrv_new (most : Int) (h0 : 0 ≤ most) (h1 : most ≤ 16777216) (w : World) (B : Nat) : WrV (w.alloc (.cells #[.int .i64 most, .slice none 0 0] 69)) B w.heap.size most [] (.slice none 0 0) :=
  ⟨Obj.made _ _ _, World.ownsRow_nil _ _ _ _, h0, h1, by simpa using h0⟩

/-- What stands while numbers are read by the first reader and written by the first writer. -/
def A1 (B0 B1 g1 g2 g3 g4 : Nat) (s : ByteArray) (w : World) (a : Nat) (wr : Int) (W : World) : Prop :=
  Rd W g1 s a wr ∧ Rd W g2 s 0 0 ∧ Wr W B1 g3 16777216 (s.data.toList.take a) ∧ WrV W 0 g4 16777216 [] (.slice none 0 0) ∧ Below B0 w W ∧ B1 ≤ W.heap.size
/-- The same for the second ones; what the first ones came to stays. -/
def A2 (B0 B1 B2 g1 g2 g3 g4 : Nat) (s : ByteArray) (w : World) (F : Nat) (wr1 : Int) (a : Nat) (wr : Int) (W : World) : Prop :=
  Rd W g1 s F wr1 ∧ Rd W g2 s a wr ∧ (∃ v, WrV W B1 g3 16777216 (s.data.toList.take F) v ∧ ∀ r, v.ownBlock = some r → r < B2) ∧ Wr W B2 g4 16777216 (s.data.toList.take a) ∧ Below B0 w W ∧ B2 ≤ W.heap.size
theorem take_le (s : ByteArray) (a : Nat) : (s.data.toList.take a).length ≤ s.size := by
  rw [List.length_take]
  have : s.data.toList.length = s.size := by rw [Array.length_toList]; rfl
  omega
theorem a1_read {B0 B1 g1 g2 g3 g4 : Nat} {s : ByteArray} {w W W' : World} {a a' : Nat} {wr wr' : Int} (h : A1 B0 B1 g1 g2 g3 g4 s w a wr W) (r : Rd W' g1 s a' wr') (k : Kp g1 none W W') (h2 : g2 ≠ g1) (hb : B0 ≤ g1) (hs : B0 ≤ w.heap.size) :
    Rd W' g2 s 0 0 ∧ Wr W' B1 g3 16777216 (s.data.toList.take a) ∧ WrV W' 0 g4 16777216 [] (.slice none 0 0) ∧ Below B0 w W' ∧ B1 ≤ W'.heap.size :=
  ⟨h.2.1.kp k h2, h.2.2.1.kp_rd h.1 k, h.2.2.2.1.kp_rd h.1 k, h.2.2.2.2.1.trans (k.below0 hb (Nat.le_trans hs h.2.2.2.2.1.size)), Nat.le_trans h.2.2.2.2.2 k.size⟩
theorem a2_read {B0 B1 B2 g1 g2 g3 g4 : Nat} {s : ByteArray} {w W W' : World} {F : Nat} {wr1 : Int} {a a' : Nat} {wr wr' : Int} (h : A2 B0 B1 B2 g1 g2 g3 g4 s w F wr1 a wr W) (r : Rd W' g2 s a' wr') (k : Kp g2 none W W') (h2 : g1 ≠ g2) (hb : B0 ≤ g2) (hs : B0 ≤ w.heap.size) :
    Rd W' g1 s F wr1 ∧ (∃ v, WrV W' B1 g3 16777216 (s.data.toList.take F) v ∧ ∀ r, v.ownBlock = some r → r < B2) ∧ Wr W' B2 g4 16777216 (s.data.toList.take a) ∧ Below B0 w W' ∧ B2 ≤ W'.heap.size := by
  obtain ⟨p1, p2, ⟨v, p3, p4⟩, p5, p6, p7⟩ := h
  exact ⟨p1.kp k h2, ⟨v, p3.kp_rd p2 k, p4⟩, p5.kp_rd p2 k, p6.trans (k.below0 hb (Nat.le_trans hs p6.size)), Nat.le_trans p7 k.size⟩

theorem anew_long (s : ByteArray) (h1 : s.size ≤ 9223372036854775807) (h2 : 5000 < s.size) (w : World) :
    Calls Try.prog 8 #[.string s] w fun e w' => e = .returned (.bool true) ∧ Below w.heap.size w w' := by
  go_enter Try.func8, Try.ntmps8
  go_wp2_with fail
  refine (awake_any _).mono ?_
  rintro e w1 ⟨rfl, b1⟩
  go_wp2_with fail
  go_ret
  exact ⟨rfl, b1⟩

set_option maxRecDepth 100000 in
theorem anew_short (s : ByteArray) (h2 : s.size ≤ 5000) (w : World) :
    Calls Try.prog 8 #[.string s] w fun e w' => e = .returned (.bool true) ∧ Below w.heap.size w w' := by
  obtain ⟨B0, hB0⟩ : ∃ B0, B0 = w.heap.size := ⟨_, rfl⟩
  rw [← hB0]
  have HB0 := Lib.hid hB0
  have e0 : B0 ≤ w.heap.size := by omega
  clear hB0
  go_enter Try.func8, Try.ntmps8
  go_wp2_with fail
  refine (awake_any _).mono ?_
  rintro e w1 ⟨rfl, b1⟩
  have c1 : Below B0 w w1 := b1.mono e0
  have e1 := Nat.le_trans e0 b1.size
  clear b1
  go_wp2_with fail
  refine (new_reader s (by omega) _).mono ?_
  rintro e w2 ⟨rfl, h⟩
  have ra := rd_new s (by omega) w1
  have b2 := alloc_below w1 (.cells #[.string s, .int .i64 0, .int .i64 0] 73)
  have z2 := size_alloc1 w1 (.cells #[.string s, .int .i64 0, .int .i64 0] 73)
  rw [← h] at ra b2 z2
  have c2 : Below B0 w w2 := c1.trans (b2.mono e1)
  have l2 : w1.heap.size < w2.heap.size := by omega
  clear h z2 c1 b2
  go_wp2_with fail
  refine (new_reader s (by omega) _).mono ?_
  rintro e w3 ⟨rfl, h⟩
  have rb := rd_new s (by omega) w2
  have b3 := alloc_below w2 (.cells #[.string s, .int .i64 0, .int .i64 0] 73)
  have z3 := size_alloc1 w2 (.cells #[.string s, .int .i64 0, .int .i64 0] 73)
  rw [← h] at rb b3 z3
  have ra := rd_more ra b3
  have c3 : Below B0 w w3 := c2.trans (b3.mono (by omega))
  have l3 : w2.heap.size < w3.heap.size := by omega
  clear h z3 c2 b3
  go_wp2_with fail
  refine (new_writer 16777216 (by omega) (by omega) _).mono ?_
  rintro e w4 ⟨rfl, h⟩
  have vw := fun B => wrv_new 16777216 (by omega) (by omega) w3 B
  have b4 := alloc_below w3 (.cells #[.int .i64 16777216, .slice none 0 0] 69)
  have z4 := size_alloc1 w3 (.cells #[.int .i64 16777216, .slice none 0 0] 69)
  rw [← h] at b4 z4
  have vw := vw 0
  rw [← h] at vw
  have ra := rd_more ra b4
  have rb := rd_more rb b4
  have c4 : Below B0 w w4 := c3.trans (b4.mono (by omega))
  have l4 : w3.heap.size < w4.heap.size := by omega
  clear h z4 c3 b4
  go_wp2_with fail
  refine (new_writer 16777216 (by omega) (by omega) _).mono ?_
  rintro e w5 ⟨rfl, h⟩
  have vv := wrv_new 16777216 (by omega) (by omega) w4 0
  have b5 := alloc_below w4 (.cells #[.int .i64 16777216, .slice none 0 0] 69)
  have z5 := size_alloc1 w4 (.cells #[.int .i64 16777216, .slice none 0 0] 69)
  rw [← h] at b5 z5 vv
  have ra := rd_more ra b5
  have rb := rd_more rb b5
  have vw := vw.below b5 (Nat.le_refl _)
  have c5 : Below B0 w w5 := c4.trans (b5.mono (by omega))
  have l5 : w4.heap.size < w5.heap.size := by omega
  clear h z5 c4 b5
  go_upto_block 0 with fail

  have r1 : A1 B0 w5.heap.size w1.heap.size w2.heap.size w3.heap.size w4.heap.size s w 0 0 w5 := ⟨ra, rb, ⟨_, wrv_nil vw⟩, vv, c5, Nat.le_refl _⟩
  have R1 := Lib.hid r1
  clear ra rb vw vv c5 r1
  go_cut [11, 12, 13] (fun i n e wc => ∃ wr, A1 B0 w5.heap.size w1.heap.size w2.heap.size w3.heap.size w4.heap.size s w (pos s.data.toList 5000 0) wr wc)
  case first =>
    go_wp2_with fail
    go_loopw [11, 12, 13] (fun i n e wr => ∃ k a : Nat, k ≤ 5000 ∧ i = .int .i64 k ∧ Hid (pos s.data.toList 5000 0 = pos s.data.toList (5000 - k) a) ∧ A1 B0 w5.heap.size w1.heap.size w2.heap.size w3.heap.size w4.heap.size s w a 0 wr) (fun i _ _ _ => 5000 - (intOf i).toNat)
    case atStart => exact ⟨0, 0, by omega, rfl, rfl, R1.out⟩
    case round =>
      obtain ⟨k, a, hk, rfl, hp, hA⟩ := hrel
      by_cases hlt : k < 5000
      · rcases hg : Vm.get (s.data.toList.drop a) with ⟨n, size, er⟩
        by_cases her : er = 0
        · subst her
          have hx := get_ok hg
          have ht := take_go hg
          have hpp : pos s.data.toList (5000 - k) a = pos s.data.toList (5000 - (k + 1)) (a + size) := by
            rw [show 5000 - k = (5000 - (k + 1)) + 1 by omega]; exact pos_go hg
          have hln := take_le s (a + size)
          have hfit := fits 16777216 (s.data.toList.take a) (Vm.put n) (by rw [← Int.natCast_add, ← List.length_append, ← ht]; omega)
          rw [← ht] at hfit
          have hnum := num_go hg
          have hn := hx.2.2.1
          have HP := Lib.hid (hp.out.trans hpp)
          have HF := Lib.hid hfit
          have HN := Lib.hid hnum
          clear hg hx ht hpp hfit hnum hln hp
          go_wp2_with fail
          refine (e_num _ _ _ _ _ _ hA.1 _ _ _ _ HN.out).mono ?_
          rintro e W1 ⟨rfl, q1, q2⟩
          obtain ⟨p2, p3, p4, p5, p6⟩ := a1_read hA q1 q2 (by omega) (by omega) e0
          clear hA q2
          go_wp2_with fail
          refine (num_w _ _ _ _ n hn _ p3 p6 _ _ HF.out.1 HF.out.2).mono ?_
          rintro e W2 ⟨rfl, q3, q4⟩
          have hA' : A1 B0 w5.heap.size w1.heap.size w2.heap.size w3.heap.size w4.heap.size s w (a + size) 0 W2 :=
            ⟨q1.fr q4 (by omega) (by omega), p2.fr q4 (by omega) (by omega), q3, p4.fr q4 (by omega) (by omega) (fun r hr => by cases hr), p5.trans (q4.below (by omega) (by omega) (Nat.le_trans e0 p5.size)), Nat.le_trans p6 q4.size⟩
          clear q1 p2 p3 p4 p5 p6 q3 q4
          go_wp2_with fail
          go_roundw
          case rel => exact ⟨k + 1, a + size, by omega, by go_num, HP, hA'⟩
          case measure => simp [intOf]; omega
        · have hnum := num_bad (most := 18446744073709551615) hg her
          have hpp := pos_end (f := 5000 - k) hg her
          have hb : ((er : Int) != 0) = true := by simp; omega
          have HP := Lib.hid (hp.out.trans hpp)
          have HN := Lib.hid hnum
          clear hg hpp hnum hp her
          go_wp2_with fail
          refine (e_num _ _ _ _ _ _ hA.1 _ _ _ _ HN.out).mono ?_
          rintro e W1 ⟨rfl, q1, q2⟩
          obtain ⟨p2, p3, p4, p5, p6⟩ := a1_read hA q1 q2 (by omega) (by omega) e0
          go_wp2_with fail
          go_meet
          case rel => rw [HP.out]; exact ⟨_, q1, p2, p3, p4, p5, p6⟩
      · obtain rfl : k = 5000 := by omega
        have HP := Lib.hid hp.out
        clear hp
        go_wp2_with fail
        go_meet
        case rel => rw [HP.out]; exact ⟨_, hA⟩
  case rest =>

    clear R1
    obtain ⟨wr1, q1, q2, q3, q4, q5, q6⟩ := hcut
    obtain ⟨F, hF⟩ : ∃ F, F = pos s.data.toList 5000 0 := ⟨_, rfl⟩
    rw [← hF] at q1 q3
    have HFP := Lib.hid hF
    have hFle : F ≤ s.size := q1.2.1
    clear hF
    have r2 : A2 B0 w5.heap.size wc.heap.size w1.heap.size w2.heap.size w3.heap.size w4.heap.size s w F wr1 0 0 wc := by
      obtain ⟨v, hv⟩ := q3
      exact ⟨q1, q2, ⟨v, hv, fun r hr => (hv.row_lt r hr).2⟩, ⟨_, wrv_nil q4⟩, q5, Nat.le_refl _⟩
    have R2 := Lib.hid r2
    clear r2 q1 q2 q3 q4 q5
    go_upto_block 2 with fail
    go_cut [14, 15, 16] (fun i n e wd => ∃ wr, A2 B0 w5.heap.size wc.heap.size w1.heap.size w2.heap.size w3.heap.size w4.heap.size s w F wr1 F wr wd)
    case first =>
      go_wp2_with fail
      go_loopw [14, 15, 16] (fun i n e wr => ∃ k a : Nat, k ≤ 5000 ∧ i = .int .i64 k ∧ Hid (F = pos s.data.toList (5000 - k) a) ∧ A2 B0 w5.heap.size wc.heap.size w1.heap.size w2.heap.size w3.heap.size w4.heap.size s w F wr1 a 0 wr) (fun i _ _ _ => 5000 - (intOf i).toNat)
      case atStart => exact ⟨0, 0, by omega, rfl, HFP, R2.out⟩
      case round =>
        obtain ⟨k, a, hk, rfl, hp, hA⟩ := hrel
        by_cases hlt : k < 5000
        · rcases hg : Vm.get (s.data.toList.drop a) with ⟨n, size, er⟩
          by_cases her : er = 0
          · subst her
            have hx := get_ok hg
            have ht := take_go hg
            have hpp : pos s.data.toList (5000 - k) a = pos s.data.toList (5000 - (k + 1)) (a + size) := by
              rw [show 5000 - k = (5000 - (k + 1)) + 1 by omega]; exact pos_go hg
            have hln := take_le s (a + size)
            have hzz : (zigV (zagV n)).toNat = n := by rw [zig_zagV _ (by omega)]; rfl
            have hfit := fits 16777216 (s.data.toList.take a) (Vm.put n) (by rw [← Int.natCast_add, ← List.length_append, ← ht]; omega)
            rw [← ht] at hfit
            have hfit : rawL 16777216 (s.data.toList.take a) (Vm.put (zigV (zagV n)).toNat) = s.data.toList.take (a + size) ∧ rawE 16777216 (s.data.toList.take a) (Vm.put (zigV (zagV n)).toNat) = 0 := by rw [hzz]; exact hfit
            have hnum := int_go hg
            have hn := zagV_rng n hx.2.2.1
            obtain ⟨hn1, hn2⟩ := hn
            have HP := Lib.hid (hp.out.trans hpp)
            have HF := Lib.hid hfit
            have HN := Lib.hid hnum
            clear hg hx ht hpp hfit hnum hln hp hzz
            go_wp2_with fail
            refine (e_int _ _ _ _ _ hA.2.1 _ _ _ _ HN.out).mono ?_
            rintro e W1 ⟨rfl, q1, q2⟩
            obtain ⟨p2, ⟨v, p3, p3'⟩, p4, p5, p6⟩ := a2_read hA q1 q2 (by omega) (by omega) e0
            clear hA q2
            go_wp2_with fail
            obtain ⟨v4, p4v⟩ := p4
            have hor := p4v.1
            refine (int_w _ _ _ _ (zagV n) hn1 hn2 _ ⟨v4, p4v⟩ p6 _ _ HF.out.1 HF.out.2).mono ?_
            rintro e W2 ⟨rfl, q3, q4⟩
            have hA' : A2 B0 w5.heap.size wc.heap.size w1.heap.size w2.heap.size w3.heap.size w4.heap.size s w F wr1 (a + size) 0 W2 :=
              ⟨p2.fr q4 (by omega) (by omega), q1.fr q4 (by omega) (by omega), ⟨v, p3.fr q4 (by omega) (by omega) (fun r hr => ⟨p3' r hr, fun e => hor.unlike_row p3.2.1 (by decide) (by rw [hr, e])⟩), p3'⟩, q3, p5.trans (q4.below (by omega) (by omega) (Nat.le_trans e0 p5.size)), Nat.le_trans p6 q4.size⟩
            clear q1 p2 p3 p3' p4v hor p5 p6 q3 q4
            go_wp2_with fail
            go_roundw
            case rel => exact ⟨k + 1, a + size, by omega, by go_num, HP, hA'⟩
            case measure => simp [intOf]; omega
          · have hnum := int_bad hg her
            have hpp := pos_end (f := 5000 - k) hg her
            have hb : ((er : Int) != 0) = true := by simp; omega
            have HP := Lib.hid (hp.out.trans hpp)
            have HN := Lib.hid hnum
            clear hg hpp hnum hp her
            go_wp2_with fail
            refine (e_int _ _ _ _ _ hA.2.1 _ _ _ _ HN.out).mono ?_
            rintro e W1 ⟨rfl, q1, q2⟩
            obtain ⟨p2, p3, p4, p5, p6⟩ := a2_read hA q1 q2 (by omega) (by omega) e0
            go_wp2_with fail
            go_meet
            case rel =>
              have := HP.out
              subst this
              exact ⟨_, p2, q1, p3, p4, p5, p6⟩
        · obtain rfl : k = 5000 := by omega
          have HP := Lib.hid hp.out
          clear hp
          go_wp2_with fail
          go_meet
          case rel =>
            have : F = a := HP.out
            subst this
            exact ⟨_, hA⟩
    case rest =>
      clear R2
      obtain ⟨wr2, p1, p2, ⟨v, p3, p3'⟩, p4, p5, p6⟩ := hcut
      have hx : bs (s.data.toList.take F) = s.extract 0 F := by
        have := ext_piece0 s F
        exact this.symm
      have HX := Lib.hid hx
      have hF1 : (F : Int) ≤ (s.size : Int) := by omega
      clear hx
      go_wp2_with fail
      refine (text_w _ _ _ _ _ ⟨v, p3⟩ _ HX.out).mono ?_
      rintro e w' ⟨rfl, rfl⟩
      go_wp2_with fail
      refine (at_any _ _ _ _ _ p1).mono ?_
      rintro e w' ⟨rfl, rfl⟩
      go_wp2_with fail
      refine (text_w _ _ _ _ _ p4 _ HX.out).mono ?_
      rintro e w' ⟨rfl, rfl⟩
      go_wp2_with fail
      refine (at_any _ _ _ _ _ p2).mono ?_
      rintro e w' ⟨rfl, rfl⟩
      go_wp2_with fail
      refine (at_any _ _ _ _ _ p1).mono ?_
      rintro e w' ⟨rfl, rfl⟩
      go_wp2_with fail
      refine (at_any _ _ _ _ _ p2).mono ?_
      rintro e w' ⟨rfl, rfl⟩
      go_wp2_with fail
      go_ret
      exact ⟨rfl, p5⟩

theorem BytesAnew_walk (s : ByteArray) (hs : s.size ≤ maxLen) (w : World) :
    Calls Try.prog 8 #[.string s] w fun e w' => e = .returned (.bool true) ∧ Below w.heap.size w w' := by
  unfold maxLen at hs
  by_cases h : s.size ≤ 5000
  · exact anew_short s h w
  · exact anew_long s hs (by omega) w

set_option maxRecDepth 100000 in
theorem BytesAnew_lifted (os : Os) (started : os.Started) (H : Type) (enc : TypeId × Value → H) :
    ReturnsInHanded {} Try.checked os 8 .any (Rows.bytesAnewSpec.pre6 enc Try.prog Try.f8 Rows.bytesAnewRow.domain false) (Rows.bytesAnewSpec.post enc Try.prog Try.f8 false true false false) := by
  refine returnsInHanded_of_change (C := Try.checked) lift_own started (by kernel_rfl) Try.func8
    (ChangeSpec.witness6 (enc := enc) (C := Try.checked) false ⟨#[], #[.string ⟨#[]⟩], []⟩ 8 (by kernel_rfl) (by kernel_rfl) (by kernel_rfl) (by kernel_rfl)) ?_
  intro W base args ds gs before hval0 hW hcnd _
  have hval : ∀ (j : Nat) t v, Try.f8.params[j]? = some t → args[j]? = some v → Value.okWide Try.prog W .any base t v := hval0
  have hW' := hW
  obtain ⟨p, q, hA0, hV, rfl, hfz, hnd⟩ := hW
  have hA : DataW.TrodAll enc Try.prog W 0 (fun _ => true) true Try.f8.params.toList args.toList ds p := hA0
  rw [Try.params8] at hA hval
  obtain ⟨v0, vs0, d0, ds0, p0, q0, hargs, rfl, rfl, h0, r0⟩ := trodAll_cons hA
  obtain ⟨rfl, rfl, rfl⟩ := trodAll_nil r0
  obtain rfl : args = #[v0] := by cases args; simp_all
  obtain ⟨rfl, rfl⟩ := trodVars_none hV
  obtain ⟨a0, rfl, rfl, rfl, w0⟩ := open_string Try.underlying9 (hval 0 9 v0 rfl rfl) h0
  clear hA0 hval0
  simp only [List.append_nil] at hW'
  refine (BytesAnew_walk a0 w0 W).mono fun e W' ⟨he, hg⟩ => ?_
  subst he
  exact ⟨_, rfl, lift_post (pa := []) (pv := []) hW' (fun _ _ _ => (trodAll_cons_mk (shut_bool Try.underlying4 _) trodAll_mk0)) (fun sp _ => (trodAll_cons_mk (shut_string Try.underlying9 w0) trodAll_mk0)) (fun _ _ => rfl) rfl
    hg (ok_one (by kernel_rfl) rfl (okWide_bool_mk Try.underlying4 _))⟩

/-- THE STATEMENT of BytesAnew: for every input the call returns true, and each argument reads behind it as before. -/
theorem BytesAnew_holds : Rows.BytesAnewSaid :=
  OpenClaim.holds_of_wide 8 Try.f8 rfl rfl rfl rfl rfl rfl rfl ⟨rfl, rfl, rfl, rfl, rfl⟩ rfl rfl rfl rfl rfl (by kernel_rfl) Try.func8 (by kernel_rfl)
    (of_decide_eq_true (by kernel_rfl)) (by unfold Func.isWrapper; first | (rw [if_pos (by decide +kernel)]; kernel_rfl) | (rw [if_neg (by decide +kernel)]; exact ⟨rfl, rfl⟩))
    (fun os started H enc _ => BytesAnew_lifted os started H enc)

end Go.Proofs.Ytieaacenobgdjaa
