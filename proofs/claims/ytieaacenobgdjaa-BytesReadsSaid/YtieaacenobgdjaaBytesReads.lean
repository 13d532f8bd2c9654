/-
  BytesReads (P2.2): what any bytes are read as, by any row of calls, is the document's, or it is refused; and each place, and what was wrong: the statement holds for every input. Conditions: none beyond the statement's own (texts of at most 5000 bytes, at most 300 steps).
-/
import Derived.Test.YtieaacenobgdjaaBv
import Derived.Test.YtieaacenobgdjaaBz
import Derived.Test.YtieaacenobgdjaaLift
namespace Go.Proofs.Ytieaacenobgdjaa
open Go.ChangeShapes Go.WideShapes Go.ChangeAt Go.RowKit Go.ChangeMaps
set_option linter.unusedVariables false
theorem Rd.kp {w w' : World} {g g2 : Nat} {s : ByteArray} {a : Nat} {wr : Int} (h : Rd w g2 s a wr) (k : Kp g none w w') (hn : g2 ≠ g) : Rd w' g2 s a wr := ⟨h.1.kp k hn (by simp), h.2⟩
theorem RRd.kp {w w' : World} {g g2 : Nat} {s : ByteArray} {a : Nat} {wr : Int} (h : RRd w g2 s a wr) (k : Kp g none w w') (hn : g2 ≠ g) : RRd w' g2 s a wr := ⟨h.1.kp k hn (by simp), h.2⟩
theorem Rd.drew {w : World} {g : Nat} {s : ByteArray} {a : Nat} {wr : Int} (h : Rd w g s a wr) : Rd w.drew g s a wr := h
theorem RRd.drew {w : World} {g : Nat} {s : ByteArray} {a : Nat} {wr : Int} (h : RRd w g s a wr) : RRd w.drew g s a wr := h
theorem cell_kp {w w' : World} {g B0 : Nat} {p : Addr} {v : Value} (h : w.cell? p = some v) (f : Kp g none w w') (hp : p.block < B0) (hg : B0 ≤ g) (hw : B0 ≤ w.heap.size) : w'.cell? p = some v := ((f.below0 hg hw).cell hp).trans h
theorem reads_at (g : Nat) (s : ByteArray) (at_ : Nat) (wr : Int) (w : World) (h : Rd w g s at_ wr) (n : Nat) :
    Calls Try.prog 40 #[.pointer (some ⟨g, 0, none⟩)] (w.drewN n) fun e w' => e = .returned (.int .i64 at_) ∧ w' = w.drewN n :=
  (at_any g s at_ wr _ (rd_drew h n)).mono fun e w' hh => ⟨hh.1, hh.2.symm⟩
theorem reads_left (g : Nat) (s : ByteArray) (at_ : Nat) (wr : Int) (w : World) (h : Rd w g s at_ wr) (n : Nat) :
    Calls Try.prog 41 #[.pointer (some ⟨g, 0, none⟩)] (w.drewN n) fun e w' => e = .returned (.int .i64 (s.size - at_ : Nat)) ∧ ∃ m, w' = (w.drewN n).drewN m :=
  left_any g s at_ wr _ (rd_drew h n)
theorem reads_left2 (g : Nat) (s : ByteArray) (at_ : Nat) (wr : Int) (w : World) (h : RRd w g s at_ wr) (n : Nat) :
    Calls Try.prog 42 #[.pointer (some ⟨g, 0, none⟩)] (w.drewN n) fun e w' => e = .returned (.int .i64 (s.size - at_ : Nat)) ∧ ∃ m, w' = (w.drewN n).drewN m :=
  ref_left g s at_ wr _ (rrd_drew h n)

set_option maxRecDepth 100000 in
theorem reads_big (s : ByteArray) (hz : s.size ≤ 9223372036854775807) (A : Option Addr) (c : Nat) (L : List StepV) (w : World) (hl : L.length ≤ 9223372036854775807) (hs : Steps w w.heap.size A L) (h : 5000 < s.size ∨ ¬ Small L) :
    Calls Try.prog 4 #[.string s, .slice A L.length c] w fun e w' => e = .returned (.bool true) ∧ Below w.heap.size w w' := by
  by_cases h1 : 5000 < s.size
  · clear h
    go_enter Try.func4, Try.ntmps4
    go_wp2_with fail
    refine (awake_any _).mono ?_
    rintro e w1 ⟨rfl, b1⟩
    go_wp2_with fail
    go_ret
    exact ⟨rfl, b1⟩
  · have h2 : ¬ Small L := by
      rcases h with h | h
      · exact absurd h h1
      · exact h
    have h3 : s.size ≤ 5000 := by omega
    have Hl := Lib.hid (large_of A c _ L w hs hl h2)
    clear h h1 h2 hs
    go_enter Try.func4, Try.ntmps4
    go_wp2_with fail
    refine Hl.out.mono ?_
    rintro e w' ⟨rfl, rfl⟩
    go_wp2_with fail
    refine (awake_any _).mono ?_
    rintro e w1 ⟨rfl, b1⟩
    go_wp2_with fail
    go_ret
    exact ⟨rfl, b1⟩

set_option maxRecDepth 100000 in
set_option maxHeartbeats 8000000 in
theorem reads_ok (s : ByteArray) (h2 : s.size ≤ 5000) (A : Option Addr) (c : Nat) (L : List StepV) (w : World) (hs : Steps w w.heap.size A L) (hL : Small L) :
    Calls Try.prog 4 #[.string s, .slice A L.length c] w fun e w' => e = .returned (.bool true) ∧ Below w.heap.size w w' := by
  obtain ⟨B0, hB0⟩ : ∃ B0, B0 = w.heap.size := ⟨_, rfl⟩
  rw [← hB0] at hs ⊢
  have e0 : B0 ≤ w.heap.size := by omega
  have HS := Lib.hid hs
  have hL1 : L.length ≤ 300 := hL.1
  have Hlarge := Lib.hid (large_no A c _ L w hs hL.1 hL.2)
  clear hB0 hs hL
  go_enter Try.func4, Try.ntmps4
  go_wp2_with fail
  refine Hlarge.out.mono ?_
  rintro e w' ⟨rfl, rfl⟩
  clear Hlarge
  go_wp2_with fail
  refine (new_reader s (by omega) _).mono ?_
  rintro e w2 ⟨rfl, h⟩
  have rd := rd_new s (by omega) w
  have b2 := alloc_below w (.cells #[.string s, .int .i64 0, .int .i64 0] 73)
  have z2 := size_alloc1 w (.cells #[.string s, .int .i64 0, .int .i64 0] 73)
  rw [← h] at rd b2 z2
  have c2 : Below B0 w w2 := b2.mono e0
  have q2 : w.heap.size < w2.heap.size := by omega
  clear h z2 b2
  go_wp2_with fail
  refine (ref_reader s (by omega) _).mono ?_
  rintro e w3 ⟨rfl, h⟩
  have rr : RRd (w2.alloc (.cells #[.string s, .int .i64 0, .int .i64 0] 63)) w2.heap.size s 0 0 := ⟨Obj.made _ _ _, Nat.zero_le _, by omega⟩
  have b3 := alloc_below w2 (.cells #[.string s, .int .i64 0, .int .i64 0] 63)
  rw [← h] at rr b3
  have rd := rd_more rd b3
  have g2 : B0 ≤ w2.heap.size := by omega
  have c3 : Below B0 w w3 := c2.trans (b3.mono g2)
  have hn1 : w2.heap.size ≠ w.heap.size := by omega
  have hn2 : w.heap.size ≠ w2.heap.size := by omega
  clear h b3 c2
  go_wp2_with fail
  go_loopw [9] (fun i wq => ∃ (k a : Nat) (wr : Int), k ≤ L.length ∧ i = .int .i64 k ∧ Rd wq w.heap.size s a wr ∧ RRd wq w2.heap.size s a wr ∧ Below B0 w wq) (fun i _ => L.length - (intOf i).toNat)
  case atStart => exact ⟨0, 0, 0, by omega, rfl, rd, rr, c3⟩
  case round =>
    obtain ⟨wq, rfl⟩ : ∃ W : World, W = wr := ⟨_, rfl⟩
    clear rd rr c3
    obtain ⟨k, a, wr, hk, rfl, rd, rr, r2⟩ := hrel
    by_cases hlt : k < L.length
    · obtain ⟨p, rfl, ha, hst0⟩ := HS.out k hlt
      have hpb : (p.add (k * 5)).block < B0 := by rw [add_block]; exact ha
      obtain ⟨d0, d1, d2, d3, d4, dok⟩ := hst0.below r2 hpb
      have gw := Nat.le_trans e0 r2.size
      have hk1 : (nth L k).k ≤ 9223372036854775807 := by have := dok.k1; omega
      by_cases k0 : (nth L k).kind = 0
      · have k0' : ((nth L k).kind : Int) = 0 := by omega
        rw [k0'] at d0
        clear k0'
        as_aux_lemma =>
          go_wp2_with fail
          refine (rByte_any _ _ _ _ _ rd).mono ?_
          rintro e W1 ⟨rfl, q1, k1⟩
          have rr1 := rr.kp k1 hn1
          have c1 := r2.trans (k1.below0 e0 gw)
          obtain ⟨f0, f1, f2, f3, f4, _⟩ := hst0.below c1 hpb
          clear rd rr r2 d0 d1 d2 d3 d4 k1
          go_wp2_with fail
          refine (rref_byte _ _ _ _ _ rr1).mono ?_
          rintro e W2 ⟨rfl, rr5, k2⟩
          have rd5 := q1.kp k2 hn2
          have c5 := c1.trans (k2.below0 g2 (Nat.le_trans e0 c1.size))
          clear q1 rr1 c1 k2 f0 f1 f2 f3 f4 gw
          generalize (rByte s a wr).1 = xv at *
          generalize (rByte s a wr).2.1 = er at *
          generalize (rByte s a wr).2.2.1 = a' at *
          generalize (rByte s a wr).2.2.2 = wr' at *
          go_wp2_with fail
          by_cases hw : wr' = 0
          · subst hw
            refine (wrong_no _ _ _ _ rd5).mono ?_
            rintro e w' ⟨rfl, rfl⟩
            go_wp2_with fail
            refine (rref_wrong_no _ _ _ _ rr5).mono ?_
            rintro e w' ⟨rfl, rfl⟩
            have rd7 := rd5
            have rr7 := rr5
            have c7 := c5
            clear rd5 rr5 c5
            have y1 := rr7.1.cell 1
            simp at y1
            have HAt := Lib.hid (fun n => reads_at _ _ _ _ _ rd7 n)
            have HL1 := Lib.hid (fun n => reads_left _ _ _ _ _ rd7 n)
            have HL2 := Lib.hid (fun n => reads_left2 _ _ _ _ _ rr7 n)
            have HA := Lib.hid rd7
            have HB := Lib.hid rr7
            clear rd7 rr7
            go_wp2_with fail
            go_quiet ((first | (go_at_call 40; exact Calls.quiet_of_same (HAt.out _)) | (go_at_call 41; exact Calls.quiet_of (HL1.out _)) | (go_at_call 42; exact Calls.quiet_of (HL2.out _))))
            go_wp2_with fail
            go_roundw
            case rel => exact ⟨k + 1, a', 0, by omega, by go_num, rd_drew HA.out _, rrd_drew HB.out _, c7.trans ((drewN_below W2 _).mono (Nat.le_trans e0 c7.size))⟩
            case measure => simp [intOf]; omega
          · refine (wrong_yes _ _ _ _ hw _ rd5).mono ?_
            rintro e W6 ⟨rfl, n6, h6⟩
            have rd6 : Rd W6 w.heap.size s a' wr' := h6 ▸ rd_drew rd5 n6
            have rr6 : RRd W6 w2.heap.size s a' wr' := h6 ▸ rrd_drew rr5 n6
            have c6 : Below B0 w W6 := h6 ▸ c5.trans ((drewN_below W2 n6).mono (Nat.le_trans e0 c5.size))
            clear h6 rd5 rr5 c5
            go_wp2_with fail
            refine (rref_wrong_yes _ _ _ _ hw _ rr6).mono ?_
            rintro e W7 ⟨rfl, n7, h7⟩
            have rd7 : Rd W7 w.heap.size s a' wr' := h7 ▸ rd_drew rd6 n7
            have rr7 : RRd W7 w2.heap.size s a' wr' := h7 ▸ rrd_drew rr6 n7
            have c7 : Below B0 w W7 := h7 ▸ c6.trans ((drewN_below W6 n7).mono (Nat.le_trans e0 c6.size))
            clear h7 rd6 rr6 c6 hw
            have y1 := rr7.1.cell 1
            simp at y1
            have HAt := Lib.hid (fun n => reads_at _ _ _ _ _ rd7 n)
            have HL1 := Lib.hid (fun n => reads_left _ _ _ _ _ rd7 n)
            have HL2 := Lib.hid (fun n => reads_left2 _ _ _ _ _ rr7 n)
            have HA := Lib.hid rd7
            have HB := Lib.hid rr7
            clear rd7 rr7
            go_wp2_with fail
            go_quiet ((first | (go_at_call 40; exact Calls.quiet_of_same (HAt.out _)) | (go_at_call 41; exact Calls.quiet_of (HL1.out _)) | (go_at_call 42; exact Calls.quiet_of (HL2.out _))))
            go_wp2_with fail
            go_roundw
            case rel => exact ⟨k + 1, a', wr', by omega, by go_num, rd_drew HA.out _, rrd_drew HB.out _, c7.trans ((drewN_below W7 _).mono (Nat.le_trans e0 c7.size))⟩
            case measure => simp [intOf]; omega
      · have e0' : (((nth L k).kind : Int) == 0) = false := by simp; omega
        by_cases k1 : (nth L k).kind = 1
        · have k1' : ((nth L k).kind : Int) = 1 := by omega
          rw [k1'] at d0
          clear k1'
          as_aux_lemma =>
            go_wp2_with fail
            refine (rNum_any ((nth L k).n : Int) _ _ _ _ _ rd).mono ?_
            rintro e W1 ⟨rfl, q1, k1⟩
            have rr1 := rr.kp k1 hn1
            have c1 := r2.trans (k1.below0 e0 gw)
            obtain ⟨f0, f1, f2, f3, f4, _⟩ := hst0.below c1 hpb
            clear rd rr r2 d0 d1 d2 d3 d4 k1
            go_wp2_with fail
            refine (rref_num ((nth L k).n : Int) _ _ _ _ _ rr1).mono ?_
            rintro e W2 ⟨rfl, rr5, k2⟩
            have rd5 := q1.kp k2 hn2
            have c5 := c1.trans (k2.below0 g2 (Nat.le_trans e0 c1.size))
            clear q1 rr1 c1 k2 f0 f1 f2 f3 f4 gw
            generalize (rNum ((nth L k).n : Int) s a wr).1 = xv at *
            generalize (rNum ((nth L k).n : Int) s a wr).2.1 = er at *
            generalize (rNum ((nth L k).n : Int) s a wr).2.2.1 = a' at *
            generalize (rNum ((nth L k).n : Int) s a wr).2.2.2 = wr' at *
            go_wp2_with fail
            by_cases hw : wr' = 0
            · subst hw
              refine (wrong_no _ _ _ _ rd5).mono ?_
              rintro e w' ⟨rfl, rfl⟩
              go_wp2_with fail
              refine (rref_wrong_no _ _ _ _ rr5).mono ?_
              rintro e w' ⟨rfl, rfl⟩
              have rd7 := rd5
              have rr7 := rr5
              have c7 := c5
              clear rd5 rr5 c5
              have y1 := rr7.1.cell 1
              simp at y1
              have HAt := Lib.hid (fun n => reads_at _ _ _ _ _ rd7 n)
              have HL1 := Lib.hid (fun n => reads_left _ _ _ _ _ rd7 n)
              have HL2 := Lib.hid (fun n => reads_left2 _ _ _ _ _ rr7 n)
              have HA := Lib.hid rd7
              have HB := Lib.hid rr7
              clear rd7 rr7
              go_wp2_with fail
              go_quiet ((first | (go_at_call 40; exact Calls.quiet_of_same (HAt.out _)) | (go_at_call 41; exact Calls.quiet_of (HL1.out _)) | (go_at_call 42; exact Calls.quiet_of (HL2.out _))))
              go_wp2_with fail
              go_roundw
              case rel => exact ⟨k + 1, a', 0, by omega, by go_num, rd_drew HA.out _, rrd_drew HB.out _, c7.trans ((drewN_below W2 _).mono (Nat.le_trans e0 c7.size))⟩
              case measure => simp [intOf]; omega
            · refine (wrong_yes _ _ _ _ hw _ rd5).mono ?_
              rintro e W6 ⟨rfl, n6, h6⟩
              have rd6 : Rd W6 w.heap.size s a' wr' := h6 ▸ rd_drew rd5 n6
              have rr6 : RRd W6 w2.heap.size s a' wr' := h6 ▸ rrd_drew rr5 n6
              have c6 : Below B0 w W6 := h6 ▸ c5.trans ((drewN_below W2 n6).mono (Nat.le_trans e0 c5.size))
              clear h6 rd5 rr5 c5
              go_wp2_with fail
              refine (rref_wrong_yes _ _ _ _ hw _ rr6).mono ?_
              rintro e W7 ⟨rfl, n7, h7⟩
              have rd7 : Rd W7 w.heap.size s a' wr' := h7 ▸ rd_drew rd6 n7
              have rr7 : RRd W7 w2.heap.size s a' wr' := h7 ▸ rrd_drew rr6 n7
              have c7 : Below B0 w W7 := h7 ▸ c6.trans ((drewN_below W6 n7).mono (Nat.le_trans e0 c6.size))
              clear h7 rd6 rr6 c6 hw
              have y1 := rr7.1.cell 1
              simp at y1
              have HAt := Lib.hid (fun n => reads_at _ _ _ _ _ rd7 n)
              have HL1 := Lib.hid (fun n => reads_left _ _ _ _ _ rd7 n)
              have HL2 := Lib.hid (fun n => reads_left2 _ _ _ _ _ rr7 n)
              have HA := Lib.hid rd7
              have HB := Lib.hid rr7
              clear rd7 rr7
              go_wp2_with fail
              go_quiet ((first | (go_at_call 40; exact Calls.quiet_of_same (HAt.out _)) | (go_at_call 41; exact Calls.quiet_of (HL1.out _)) | (go_at_call 42; exact Calls.quiet_of (HL2.out _))))
              go_wp2_with fail
              go_roundw
              case rel => exact ⟨k + 1, a', wr', by omega, by go_num, rd_drew HA.out _, rrd_drew HB.out _, c7.trans ((drewN_below W7 _).mono (Nat.le_trans e0 c7.size))⟩
              case measure => simp [intOf]; omega
        · have e1' : (((nth L k).kind : Int) == 1) = false := by simp; omega
          by_cases k2 : (nth L k).kind = 2
          · have k2' : ((nth L k).kind : Int) = 2 := by omega
            rw [k2'] at d0
            clear k2'
            as_aux_lemma =>
              go_wp2_with fail
              refine (rInt_any _ _ _ _ _ rd).mono ?_
              rintro e W1 ⟨rfl, q1, k1⟩
              have rr1 := rr.kp k1 hn1
              have c1 := r2.trans (k1.below0 e0 gw)
              obtain ⟨f0, f1, f2, f3, f4, _⟩ := hst0.below c1 hpb
              clear rd rr r2 d0 d1 d2 d3 d4 k1
              go_wp2_with fail
              refine (rref_int _ _ _ _ _ rr1).mono ?_
              rintro e W2 ⟨rfl, rr5, k2⟩
              have rd5 := q1.kp k2 hn2
              have c5 := c1.trans (k2.below0 g2 (Nat.le_trans e0 c1.size))
              clear q1 rr1 c1 k2 f0 f1 f2 f3 f4 gw
              generalize (rInt s a wr).1 = xv at *
              generalize (rInt s a wr).2.1 = er at *
              generalize (rInt s a wr).2.2.1 = a' at *
              generalize (rInt s a wr).2.2.2 = wr' at *
              go_wp2_with fail
              by_cases hw : wr' = 0
              · subst hw
                refine (wrong_no _ _ _ _ rd5).mono ?_
                rintro e w' ⟨rfl, rfl⟩
                go_wp2_with fail
                refine (rref_wrong_no _ _ _ _ rr5).mono ?_
                rintro e w' ⟨rfl, rfl⟩
                have rd7 := rd5
                have rr7 := rr5
                have c7 := c5
                clear rd5 rr5 c5
                have y1 := rr7.1.cell 1
                simp at y1
                have HAt := Lib.hid (fun n => reads_at _ _ _ _ _ rd7 n)
                have HL1 := Lib.hid (fun n => reads_left _ _ _ _ _ rd7 n)
                have HL2 := Lib.hid (fun n => reads_left2 _ _ _ _ _ rr7 n)
                have HA := Lib.hid rd7
                have HB := Lib.hid rr7
                clear rd7 rr7
                go_wp2_with fail
                go_quiet ((first | (go_at_call 40; exact Calls.quiet_of_same (HAt.out _)) | (go_at_call 41; exact Calls.quiet_of (HL1.out _)) | (go_at_call 42; exact Calls.quiet_of (HL2.out _))))
                go_wp2_with fail
                go_roundw
                case rel => exact ⟨k + 1, a', 0, by omega, by go_num, rd_drew HA.out _, rrd_drew HB.out _, c7.trans ((drewN_below W2 _).mono (Nat.le_trans e0 c7.size))⟩
                case measure => simp [intOf]; omega
              · refine (wrong_yes _ _ _ _ hw _ rd5).mono ?_
                rintro e W6 ⟨rfl, n6, h6⟩
                have rd6 : Rd W6 w.heap.size s a' wr' := h6 ▸ rd_drew rd5 n6
                have rr6 : RRd W6 w2.heap.size s a' wr' := h6 ▸ rrd_drew rr5 n6
                have c6 : Below B0 w W6 := h6 ▸ c5.trans ((drewN_below W2 n6).mono (Nat.le_trans e0 c5.size))
                clear h6 rd5 rr5 c5
                go_wp2_with fail
                refine (rref_wrong_yes _ _ _ _ hw _ rr6).mono ?_
                rintro e W7 ⟨rfl, n7, h7⟩
                have rd7 : Rd W7 w.heap.size s a' wr' := h7 ▸ rd_drew rd6 n7
                have rr7 : RRd W7 w2.heap.size s a' wr' := h7 ▸ rrd_drew rr6 n7
                have c7 : Below B0 w W7 := h7 ▸ c6.trans ((drewN_below W6 n7).mono (Nat.le_trans e0 c6.size))
                clear h7 rd6 rr6 c6 hw
                have y1 := rr7.1.cell 1
                simp at y1
                have HAt := Lib.hid (fun n => reads_at _ _ _ _ _ rd7 n)
                have HL1 := Lib.hid (fun n => reads_left _ _ _ _ _ rd7 n)
                have HL2 := Lib.hid (fun n => reads_left2 _ _ _ _ _ rr7 n)
                have HA := Lib.hid rd7
                have HB := Lib.hid rr7
                clear rd7 rr7
                go_wp2_with fail
                go_quiet ((first | (go_at_call 40; exact Calls.quiet_of_same (HAt.out _)) | (go_at_call 41; exact Calls.quiet_of (HL1.out _)) | (go_at_call 42; exact Calls.quiet_of (HL2.out _))))
                go_wp2_with fail
                go_roundw
                case rel => exact ⟨k + 1, a', wr', by omega, by go_num, rd_drew HA.out _, rrd_drew HB.out _, c7.trans ((drewN_below W7 _).mono (Nat.le_trans e0 c7.size))⟩
                case measure => simp [intOf]; omega
          · have e2' : (((nth L k).kind : Int) == 2) = false := by simp; omega
            by_cases k3 : (nth L k).kind = 3
            · have k3' : ((nth L k).kind : Int) = 3 := by omega
              rw [k3'] at d0
              clear k3'
              as_aux_lemma =>
                go_wp2_with fail
                refine (rRaw_any (nth L k).k _ _ _ _ _ rd).mono ?_
                rintro e W1 ⟨rfl, q1, k1⟩
                have rr1 := rr.kp k1 hn1
                have c1 := r2.trans (k1.below0 e0 gw)
                obtain ⟨f0, f1, f2, f3, f4, _⟩ := hst0.below c1 hpb
                clear rd rr r2 d0 d1 d2 d3 d4 k1
                go_wp2_with fail
                refine (rref_raw (nth L k).k hk1 _ _ _ _ _ rr1).mono ?_
                rintro e W2 ⟨rfl, rr5, k2⟩
                have rd5 := q1.kp k2 hn2
                have c5 := c1.trans (k2.below0 g2 (Nat.le_trans e0 c1.size))
                clear q1 rr1 c1 k2 f0 f1 f2 f3 f4 gw
                generalize (rRaw (nth L k).k s a wr).1 = xv at *
                generalize (rRaw (nth L k).k s a wr).2.1 = er at *
                generalize (rRaw (nth L k).k s a wr).2.2.1 = a' at *
                generalize (rRaw (nth L k).k s a wr).2.2.2 = wr' at *
                go_wp2_with fail
                by_cases hw : wr' = 0
                · subst hw
                  refine (wrong_no _ _ _ _ rd5).mono ?_
                  rintro e w' ⟨rfl, rfl⟩
                  go_wp2_with fail
                  refine (rref_wrong_no _ _ _ _ rr5).mono ?_
                  rintro e w' ⟨rfl, rfl⟩
                  have rd7 := rd5
                  have rr7 := rr5
                  have c7 := c5
                  clear rd5 rr5 c5
                  have y1 := rr7.1.cell 1
                  simp at y1
                  have HAt := Lib.hid (fun n => reads_at _ _ _ _ _ rd7 n)
                  have HL1 := Lib.hid (fun n => reads_left _ _ _ _ _ rd7 n)
                  have HL2 := Lib.hid (fun n => reads_left2 _ _ _ _ _ rr7 n)
                  have HA := Lib.hid rd7
                  have HB := Lib.hid rr7
                  clear rd7 rr7
                  go_wp2_with fail
                  go_quiet ((first | (go_at_call 40; exact Calls.quiet_of_same (HAt.out _)) | (go_at_call 41; exact Calls.quiet_of (HL1.out _)) | (go_at_call 42; exact Calls.quiet_of (HL2.out _))))
                  go_wp2_with fail
                  go_roundw
                  case rel => exact ⟨k + 1, a', 0, by omega, by go_num, rd_drew HA.out _, rrd_drew HB.out _, c7.trans ((drewN_below W2 _).mono (Nat.le_trans e0 c7.size))⟩
                  case measure => simp [intOf]; omega
                · refine (wrong_yes _ _ _ _ hw _ rd5).mono ?_
                  rintro e W6 ⟨rfl, n6, h6⟩
                  have rd6 : Rd W6 w.heap.size s a' wr' := h6 ▸ rd_drew rd5 n6
                  have rr6 : RRd W6 w2.heap.size s a' wr' := h6 ▸ rrd_drew rr5 n6
                  have c6 : Below B0 w W6 := h6 ▸ c5.trans ((drewN_below W2 n6).mono (Nat.le_trans e0 c5.size))
                  clear h6 rd5 rr5 c5
                  go_wp2_with fail
                  refine (rref_wrong_yes _ _ _ _ hw _ rr6).mono ?_
                  rintro e W7 ⟨rfl, n7, h7⟩
                  have rd7 : Rd W7 w.heap.size s a' wr' := h7 ▸ rd_drew rd6 n7
                  have rr7 : RRd W7 w2.heap.size s a' wr' := h7 ▸ rrd_drew rr6 n7
                  have c7 : Below B0 w W7 := h7 ▸ c6.trans ((drewN_below W6 n7).mono (Nat.le_trans e0 c6.size))
                  clear h7 rd6 rr6 c6 hw
                  have y1 := rr7.1.cell 1
                  simp at y1
                  have HAt := Lib.hid (fun n => reads_at _ _ _ _ _ rd7 n)
                  have HL1 := Lib.hid (fun n => reads_left _ _ _ _ _ rd7 n)
                  have HL2 := Lib.hid (fun n => reads_left2 _ _ _ _ _ rr7 n)
                  have HA := Lib.hid rd7
                  have HB := Lib.hid rr7
                  clear rd7 rr7
                  go_wp2_with fail
                  go_quiet ((first | (go_at_call 40; exact Calls.quiet_of_same (HAt.out _)) | (go_at_call 41; exact Calls.quiet_of (HL1.out _)) | (go_at_call 42; exact Calls.quiet_of (HL2.out _))))
                  go_wp2_with fail
                  go_roundw
                  case rel => exact ⟨k + 1, a', wr', by omega, by go_num, rd_drew HA.out _, rrd_drew HB.out _, c7.trans ((drewN_below W7 _).mono (Nat.le_trans e0 c7.size))⟩
                  case measure => simp [intOf]; omega
            · have e3' : (((nth L k).kind : Int) == 3) = false := by simp; omega
              by_cases k4 : (nth L k).kind = 4
              · have k4' : ((nth L k).kind : Int) = 4 := by omega
                rw [k4'] at d0
                clear k4'
                as_aux_lemma =>
                  go_wp2_with fail
                  go_region_held3 (fun w' => w'.cell? ⟨(p.add (k * 5)).block, (p.add (k * 5)).off + 4, none⟩ = some (.int .i64 (nth L k).k))
                    (first | exact cell_kp (cell_kp (w := wq.drew) d4 k4 hpb e0 gw) k5 hpb g2 (Nat.le_trans gw k4.size) | exact cell_kp (w := wq.drew) d4 k4 hpb e0 gw | exact d4 | fail)
                    (first | (go_at_call 34; refine (rFail_any _ _ _ _ _ _ _ rd.drew).mono ?_; rintro e W1 ⟨rfl, q1, k4⟩) | (go_at_call 35; refine (rref_fail _ _ _ _ _ _ _ (rr.drew.kp k4 hn1)).mono ?_; rintro e W2 ⟨rfl, rr5, k5⟩) | fail)
                  have rd5 := q1.kp k5 hn2
                  have c4 : Below B0 w W1 := r2.drew.trans (k4.below0 (w := wq.drew) e0 gw)
                  have c5 : Below B0 w W2 := c4.trans (k5.below0 g2 (Nat.le_trans e0 c4.size))
                  clear rd rr r2 q1 k4 k5 c4 d0 d1 d2 d3 d4 gw
                  generalize hr : rFail (nth L k).k _ a wr = R at *
                  clear hr
                  generalize R.1 = er at *
                  generalize R.2.1 = a' at *
                  generalize R.2.2 = wr' at *
                  go_wp2_with fail
                  by_cases hw : wr' = 0
                  · subst hw
                    refine (wrong_no _ _ _ _ rd5).mono ?_
                    rintro e w' ⟨rfl, rfl⟩
                    go_wp2_with fail
                    refine (rref_wrong_no _ _ _ _ rr5).mono ?_
                    rintro e w' ⟨rfl, rfl⟩
                    have rd7 := rd5
                    have rr7 := rr5
                    have c7 := c5
                    clear rd5 rr5 c5
                    have y1 := rr7.1.cell 1
                    simp at y1
                    have HAt := Lib.hid (fun n => reads_at _ _ _ _ _ rd7 n)
                    have HL1 := Lib.hid (fun n => reads_left _ _ _ _ _ rd7 n)
                    have HL2 := Lib.hid (fun n => reads_left2 _ _ _ _ _ rr7 n)
                    have HA := Lib.hid rd7
                    have HB := Lib.hid rr7
                    clear rd7 rr7
                    go_wp2_with fail
                    go_quiet ((first | (go_at_call 40; exact Calls.quiet_of_same (HAt.out _)) | (go_at_call 41; exact Calls.quiet_of (HL1.out _)) | (go_at_call 42; exact Calls.quiet_of (HL2.out _))))
                    go_wp2_with fail
                    go_roundw
                    case rel => exact ⟨k + 1, a', 0, by omega, by go_num, rd_drew HA.out _, rrd_drew HB.out _, c7.trans ((drewN_below W2 _).mono (Nat.le_trans e0 c7.size))⟩
                    case measure => simp [intOf]; omega
                  · refine (wrong_yes _ _ _ _ hw _ rd5).mono ?_
                    rintro e W6 ⟨rfl, n6, h6⟩
                    have rd6 : Rd W6 w.heap.size s a' wr' := h6 ▸ rd_drew rd5 n6
                    have rr6 : RRd W6 w2.heap.size s a' wr' := h6 ▸ rrd_drew rr5 n6
                    have c6 : Below B0 w W6 := h6 ▸ c5.trans ((drewN_below W2 n6).mono (Nat.le_trans e0 c5.size))
                    clear h6 rd5 rr5 c5
                    go_wp2_with fail
                    refine (rref_wrong_yes _ _ _ _ hw _ rr6).mono ?_
                    rintro e W7 ⟨rfl, n7, h7⟩
                    have rd7 : Rd W7 w.heap.size s a' wr' := h7 ▸ rd_drew rd6 n7
                    have rr7 : RRd W7 w2.heap.size s a' wr' := h7 ▸ rrd_drew rr6 n7
                    have c7 : Below B0 w W7 := h7 ▸ c6.trans ((drewN_below W6 n7).mono (Nat.le_trans e0 c6.size))
                    clear h7 rd6 rr6 c6 hw
                    have y1 := rr7.1.cell 1
                    simp at y1
                    have HAt := Lib.hid (fun n => reads_at _ _ _ _ _ rd7 n)
                    have HL1 := Lib.hid (fun n => reads_left _ _ _ _ _ rd7 n)
                    have HL2 := Lib.hid (fun n => reads_left2 _ _ _ _ _ rr7 n)
                    have HA := Lib.hid rd7
                    have HB := Lib.hid rr7
                    clear rd7 rr7
                    go_wp2_with fail
                    go_quiet ((first | (go_at_call 40; exact Calls.quiet_of_same (HAt.out _)) | (go_at_call 41; exact Calls.quiet_of (HL1.out _)) | (go_at_call 42; exact Calls.quiet_of (HL2.out _))))
                    go_wp2_with fail
                    go_roundw
                    case rel => exact ⟨k + 1, a', wr', by omega, by go_num, rd_drew HA.out _, rrd_drew HB.out _, c7.trans ((drewN_below W7 _).mono (Nat.le_trans e0 c7.size))⟩
                    case measure => simp [intOf]; omega
              · have e4' : (((nth L k).kind : Int) == 4) = false := by simp; omega
                as_aux_lemma =>
                  go_wp2_with fail
                  refine (rEnd_any _ _ _ _ _ rd).mono ?_
                  rintro e W1 ⟨rfl, q1, k1⟩
                  have rr1 := rr.kp k1 hn1
                  have c1 := r2.trans (k1.below0 e0 gw)
                  obtain ⟨f0, f1, f2, f3, f4, _⟩ := hst0.below c1 hpb
                  clear rd rr r2 d0 d1 d2 d3 d4 k1
                  go_wp2_with fail
                  refine (rref_end _ _ _ _ _ rr1).mono ?_
                  rintro e W2 ⟨rfl, rr5, k2⟩
                  have rd5 := q1.kp k2 hn2
                  have c5 := c1.trans (k2.below0 g2 (Nat.le_trans e0 c1.size))
                  clear q1 rr1 c1 k2 f0 f1 f2 f3 f4 gw
                  generalize (rEnd s a wr).2.1 = er at *
                  generalize (rEnd s a wr).2.2.1 = a' at *
                  generalize (rEnd s a wr).2.2.2 = wr' at *
                  go_wp2_with fail
                  by_cases hw : wr' = 0
                  · subst hw
                    refine (wrong_no _ _ _ _ rd5).mono ?_
                    rintro e w' ⟨rfl, rfl⟩
                    go_wp2_with fail
                    refine (rref_wrong_no _ _ _ _ rr5).mono ?_
                    rintro e w' ⟨rfl, rfl⟩
                    have rd7 := rd5
                    have rr7 := rr5
                    have c7 := c5
                    clear rd5 rr5 c5
                    have y1 := rr7.1.cell 1
                    simp at y1
                    have HAt := Lib.hid (fun n => reads_at _ _ _ _ _ rd7 n)
                    have HL1 := Lib.hid (fun n => reads_left _ _ _ _ _ rd7 n)
                    have HL2 := Lib.hid (fun n => reads_left2 _ _ _ _ _ rr7 n)
                    have HA := Lib.hid rd7
                    have HB := Lib.hid rr7
                    clear rd7 rr7
                    go_wp2_with fail
                    go_quiet ((first | (go_at_call 40; exact Calls.quiet_of_same (HAt.out _)) | (go_at_call 41; exact Calls.quiet_of (HL1.out _)) | (go_at_call 42; exact Calls.quiet_of (HL2.out _))))
                    go_wp2_with fail
                    go_roundw
                    case rel => exact ⟨k + 1, a', 0, by omega, by go_num, rd_drew HA.out _, rrd_drew HB.out _, c7.trans ((drewN_below W2 _).mono (Nat.le_trans e0 c7.size))⟩
                    case measure => simp [intOf]; omega
                  · refine (wrong_yes _ _ _ _ hw _ rd5).mono ?_
                    rintro e W6 ⟨rfl, n6, h6⟩
                    have rd6 : Rd W6 w.heap.size s a' wr' := h6 ▸ rd_drew rd5 n6
                    have rr6 : RRd W6 w2.heap.size s a' wr' := h6 ▸ rrd_drew rr5 n6
                    have c6 : Below B0 w W6 := h6 ▸ c5.trans ((drewN_below W2 n6).mono (Nat.le_trans e0 c5.size))
                    clear h6 rd5 rr5 c5
                    go_wp2_with fail
                    refine (rref_wrong_yes _ _ _ _ hw _ rr6).mono ?_
                    rintro e W7 ⟨rfl, n7, h7⟩
                    have rd7 : Rd W7 w.heap.size s a' wr' := h7 ▸ rd_drew rd6 n7
                    have rr7 : RRd W7 w2.heap.size s a' wr' := h7 ▸ rrd_drew rr6 n7
                    have c7 : Below B0 w W7 := h7 ▸ c6.trans ((drewN_below W6 n7).mono (Nat.le_trans e0 c6.size))
                    clear h7 rd6 rr6 c6 hw
                    have y1 := rr7.1.cell 1
                    simp at y1
                    have HAt := Lib.hid (fun n => reads_at _ _ _ _ _ rd7 n)
                    have HL1 := Lib.hid (fun n => reads_left _ _ _ _ _ rd7 n)
                    have HL2 := Lib.hid (fun n => reads_left2 _ _ _ _ _ rr7 n)
                    have HA := Lib.hid rd7
                    have HB := Lib.hid rr7
                    clear rd7 rr7
                    go_wp2_with fail
                    go_quiet ((first | (go_at_call 40; exact Calls.quiet_of_same (HAt.out _)) | (go_at_call 41; exact Calls.quiet_of (HL1.out _)) | (go_at_call 42; exact Calls.quiet_of (HL2.out _))))
                    go_wp2_with fail
                    go_roundw
                    case rel => exact ⟨k + 1, a', wr', by omega, by go_num, rd_drew HA.out _, rrd_drew HB.out _, c7.trans ((drewN_below W7 _).mono (Nat.le_trans e0 c7.size))⟩
                    case measure => simp [intOf]; omega
    · go_wp2_with fail
      refine (awake_any _).mono ?_
      rintro e w1 ⟨rfl, b1⟩
      go_wp2_with fail
      go_ret
      exact ⟨rfl, r2.trans (b1.mono (Nat.le_trans e0 r2.size))⟩

theorem BytesReads_walk (s : ByteArray) (hz : s.size ≤ maxLen) (A : Option Addr) (c : Nat) (L : List StepV) (hl : L.length ≤ 9223372036854775807) (w : World) (hs : Steps w w.heap.size A L) :
    Calls Try.prog 4 #[.string s, .slice A L.length c] w fun e w' => e = .returned (.bool true) ∧ Below w.heap.size w w' := by
  unfold maxLen at hz
  by_cases h : 5000 < s.size ∨ ¬ Small L
  · exact reads_big s hz A c L w hl hs h
  · by_cases h1 : Small L
    · exact reads_ok s (by omega) A c L w hs h1
    · exact absurd (Or.inr h1) h

theorem BytesReads_laid : laidOutB Try.prog = true := by kernel_rfl
set_option maxRecDepth 100000 in
theorem BytesReads_lifted (os : Os) (started : os.Started) (H : Type) (enc : TypeId × Value → H) :
    ReturnsInHanded {} Try.checked os 4 .any (Rows.bytesReadsSpec.pre6 enc Try.prog Try.f4 Rows.bytesReadsRow.domain false) (Rows.bytesReadsSpec.post enc Try.prog Try.f4 false true false false) := by
  refine returnsInHanded_of_change (C := Try.checked) lift_own started (by kernel_rfl) Try.func4
    (ChangeSpec.witness6 (enc := enc) (C := Try.checked) false ⟨#[], #[.string ⟨#[]⟩, .slice none 0 0], []⟩ 8 (by kernel_rfl) (by kernel_rfl) (by kernel_rfl) (by kernel_rfl)) ?_
  intro W base args ds gs before hval0 hW hcnd _
  have hval : ∀ (j : Nat) t v, Try.f4.params[j]? = some t → args[j]? = some v → Value.okWide Try.prog W .any base t v := hval0
  have hW' := hW
  obtain ⟨p, q, hA0, hV, rfl, hfz, hnd⟩ := hW
  have hA : DataW.TrodAll enc Try.prog W 0 (fun _ => true) true Try.f4.params.toList args.toList ds p := hA0
  rw [Try.params4] at hA hval
  obtain ⟨v0, vs0, d0, ds0, p0, q0, hargs, rfl, rfl, h0, r0⟩ := trodAll_cons hA
  obtain ⟨v1, vs1, d1, ds1, p1, q1, rfl, rfl, rfl, h1, r1⟩ := trodAll_cons r0
  obtain ⟨rfl, rfl, rfl⟩ := trodAll_nil r1
  obtain rfl : args = #[v0, v1] := by cases args; simp_all
  obtain ⟨rfl, rfl⟩ := trodVars_none hV
  obtain ⟨a0, rfl, rfl, rfl, w0⟩ := open_string Try.underlying9 (hval 0 9 v0 rfl rfl) h0
  obtain ⟨A1, c1, L1, rfl, wl1, ws1⟩ := open_steps (hval 1 22 v1 rfl rfl) h1
  clear hA0 hval0
  simp only [List.append_nil, List.nil_append] at hW'
  refine (BytesReads_walk a0 w0 A1 c1 L1 wl1 W ws1).mono fun e W' ⟨he, hg⟩ => ?_
  subst he
  exact ⟨_, rfl, lift_post (pv := []) hW' (fun _ _ _ => (trodAll_cons_mk (shut_bool Try.underlying4 _) trodAll_mk0)) (fun sp hsp => (trodAll_cons_mk (shut_string Try.underlying9 w0) (trodAll_cons_mk (WideElems.Trod_stays BytesReads_laid (by kernel_rfl) (of_decide_eq_true (by kernel_rfl)) h1 (fun x hx => hg.same (hW'.lt x (by simp [hx]))) (fun x hx => hsp x (by simp [hx]))) trodAll_mk0))) (fun _ _ => rfl) (by simp)
    hg (ok_one (by kernel_rfl) rfl (okWide_bool_mk Try.underlying4 _))⟩

/-- THE STATEMENT of BytesReads: for every input the call returns true, and each argument reads behind it as before. -/
theorem BytesReads_holds : Rows.BytesReadsSaid :=
  OpenClaim.holds_of_wide 4 Try.f4 rfl rfl rfl rfl rfl rfl rfl ⟨rfl, rfl, rfl, rfl, rfl⟩ rfl rfl rfl rfl rfl (by kernel_rfl) Try.func4 (by kernel_rfl)
    (of_decide_eq_true (by kernel_rfl)) (by unfold Func.isWrapper; first | (rw [if_pos (by decide +kernel)]; kernel_rfl) | (rw [if_neg (by decide +kernel)]; exact ⟨rfl, rfl⟩))
    (fun os started H enc _ => BytesReads_lifted os started H enc)

end Go.Proofs.Ytieaacenobgdjaa
