/-
  BytesPlaces (P2.4): a place never falls; what is refused leaves it, and is told with that place from then on: the statement holds for every input. Conditions: none beyond the statement's own (texts of at most 5000 bytes, at most 300 steps).
-/
import Derived.Test.YtieaacenobgdjaaBv
import Derived.Test.YtieaacenobgdjaaLift
namespace Go.Proofs.Ytieaacenobgdjaa
open Go.ChangeShapes Go.WideShapes Go.ChangeAt Go.RowKit Go.ChangeMaps
set_option linter.unusedVariables false

/-- What each reading call keeps to: the place does not fall; what is refused leaves it; what was wrong is told again; what is told is what is wrong then. -/
structure Kept (a : Nat) (wr er : Int) (a' : Nat) (wr' : Int) : Prop where
  le : a ≤ a'
  stays : er ≠ 0 → a' = a
  again : wr ≠ 0 → er = wr
  told : er = wr'
theorem kept_rd {α : Type} (z : α) (a : Nat) (wr : Int) (t : α × Nat × Int) : Kept a wr (rd z a wr t).2.1 (rd z a wr t).2.2.1 (rd z a wr t).2.2.2 := by
  by_cases hw : wr = 0
  · subst hw
    by_cases he : t.2.2 = 0
    · rw [rd_k he]
      exact ⟨by simp, by simp, by simp, rfl⟩
    · rw [rd_e he]
      exact ⟨by simp, by simp, by simp, rfl⟩
  · rw [rd_w hw]
    exact ⟨by simp, by simp, by simp, rfl⟩
/-- Behind a reading call: an error er, the place a', and er is what is wrong then. -/
def PlacePost (v : Int → Ending) (g : Nat) (s : ByteArray) (a : Nat) (wr : Int) (w : World) (e : Ending) (w' : World) : Prop :=
  ∃ (er : Int) (a' : Nat), e = v er ∧ a ≤ a' ∧ (er ≠ 0 → a' = a) ∧ (wr ≠ 0 → er = wr) ∧ Rd w' g s a' er ∧ Kp g none w w'
theorem left_is (g : Nat) (s : ByteArray) (at_ : Nat) (wr : Int) (w : World) (h : Rd w g s at_ wr) (m : Nat) (hm : s.size - at_ = m) :
    Calls Try.prog 41 #[.pointer (some ⟨g, 0, none⟩)] w fun e w' => e = .returned (.int .i64 m) ∧ ∃ n, w' = w.drewN n := by
  subst hm
  exact left_any g s at_ wr w h

theorem places_big (s : ByteArray) (hz : s.size ≤ 9223372036854775807) (A : Option Addr) (c : Nat) (L : List StepV) (w : World) (hl : L.length ≤ 9223372036854775807) (hs : Steps w w.heap.size A L) (h : 5000 < s.size ∨ ¬ Small L) :
    Calls Try.prog 7 #[.string s, .slice A L.length c] w fun e w' => e = .returned (.bool true) ∧ Below w.heap.size w w' := by
  by_cases h1 : 5000 < s.size
  · clear h
    go_enter Try.func7, Try.ntmps7
    go_wp2_with fail
    refine (awake_any _).mono ?_
    rintro e w1 ⟨rfl, b1⟩
    go_wp2_with fail
    go_ret
    exact ⟨rfl, b1⟩
  · have h2 : ¬ Small L := by
      rcases h with h | h
      · exact absurd h h1
      · exact h
    have h3 : s.size ≤ 5000 := by omega
    have Hl := Lib.hid (large_of A c _ L w hs hl h2)
    clear h h1 h2 hs
    go_enter Try.func7, Try.ntmps7
    go_wp2_with fail
    refine Hl.out.mono ?_
    rintro e w' ⟨rfl, rfl⟩
    go_wp2_with fail
    refine (awake_any _).mono ?_
    rintro e w1 ⟨rfl, b1⟩
    go_wp2_with fail
    go_ret
    exact ⟨rfl, b1⟩

set_option maxRecDepth 100000 in
set_option maxHeartbeats 4000000 in
theorem places_ok (s : ByteArray) (h2 : s.size ≤ 5000) (A : Option Addr) (c : Nat) (L : List StepV) (w : World) (hs : Steps w w.heap.size A L) (hL : Small L) :
    Calls Try.prog 7 #[.string s, .slice A L.length c] w fun e w' => e = .returned (.bool true) ∧ Below w.heap.size w w' := by
  obtain ⟨B0, hB0⟩ : ∃ B0, B0 = w.heap.size := ⟨_, rfl⟩
  rw [← hB0] at hs ⊢
  have e0 : B0 ≤ w.heap.size := by omega
  have HS := Lib.hid hs
  have hL1 : L.length ≤ 300 := hL.1
  have Hlarge := Lib.hid (large_no A c _ L w hs hL.1 hL.2)
  clear hB0 hs hL
  go_enter Try.func7, Try.ntmps7
  go_wp2_with fail
  refine Hlarge.out.mono ?_
  rintro e w' ⟨rfl, rfl⟩
  clear Hlarge
  go_wp2_with fail
  refine (awake_any _).mono ?_
  rintro e w1 ⟨rfl, b1⟩
  have c1 : Below B0 w w1 := b1.mono e0
  have e1 := Nat.le_trans e0 b1.size
  clear b1
  go_wp2_with fail
  refine (new_reader s (by omega) _).mono ?_
  rintro e w2 ⟨rfl, h⟩
  have rr := rd_new s (by omega) w1
  have b2 := alloc_below w1 (.cells #[.string s, .int .i64 0, .int .i64 0] 73)
  rw [← h] at rr b2
  have c2 : Below B0 w w2 := c1.trans (b2.mono e1)
  clear h c1 b2
  go_wp2_with fail
  go_loopw [7, 8] (fun wv i wr' => ∃ (k a : Nat) (wr : Int), k ≤ L.length ∧ i = .int .i64 k ∧ wv = .int .i64 wr ∧ Rd wr' w1.heap.size s a wr ∧ Below B0 w wr') (fun _ i _ => L.length - (intOf i).toNat)
  case atStart => exact ⟨0, 0, 0, by omega, rfl, rfl, rr, c2⟩
  case round =>
    rename_i wx _
    clear rr c2
    obtain ⟨k, a, wr, hk, rfl, rfl, rd, r2⟩ := hrel
    by_cases hlt : k < L.length
    · obtain ⟨p, rfl, ha, hst0⟩ := HS.out k hlt
      obtain ⟨d0, d1, d2, d3, d4, _⟩ := hst0.below r2 (by rw [add_block]; exact ha)
      have has := rd.2.1
      by_cases k0 : (nth L k).kind = 0
      · have k0' : ((nth L k).kind : Int) = 0 := by omega
        rw [k0'] at d0
        clear k0'
        have hK : Kept a wr (rByte s a wr).2.1 (rByte s a wr).2.2.1 (rByte s a wr).2.2.2 := kept_rd (0 : Int) a wr (tByte (s.data.toList.drop a))
        go_wp2_with fail
        refine (at_any _ _ _ _ _ rd).mono ?_
        rintro e w' ⟨rfl, rfl⟩
        go_wp2_with fail
        refine (rByte_any _ _ _ _ _ rd).mono ?_
        rintro e W1 ⟨rfl, q1, q2⟩
        generalize (rByte s a wr).1 = xv at *
        generalize (rByte s a wr).2.1 = er at *
        generalize (rByte s a wr).2.2.1 = a' at *
        generalize (rByte s a wr).2.2.2 = wr' at *
        obtain ⟨hle, hst, hag, rfl⟩ := hK
        have r2' := r2.trans (q2.below0 (B0 := B0) e1 (Nat.le_trans e0 r2.size))
        clear q2 r2 rd d0 d1 d2 d3 d4
        have has' := q1.2.1
        obtain ⟨m, hm⟩ : ∃ m, s.size - a' = m := ⟨_, rfl⟩
        have hsum : ((a' : Int) + (m : Int) != (s.size : Int)) = false := by simp; omega
        have hmz : (a' : Int) + (m : Int) ≤ 16777216 := by omega
        have HM := Lib.hid hm
        have hle' : (a : Int) ≤ (a' : Int) := by omega
        clear hm hle has
        by_cases he : er = 0
        · subst he
          have hw : wr = 0 := by
            by_cases hc : wr = 0
            · exact hc
            · exact absurd (hag hc).symm hc
          subst hw
          clear hag hst
          go_wp2_with fail
          refine (at_any _ _ _ _ _ q1).mono ?_
          rintro e w' ⟨rfl, rfl⟩
          go_wp2_with fail
          refine (at_any _ _ _ _ _ q1).mono ?_
          rintro e w' ⟨rfl, rfl⟩
          go_wp2_with fail
          refine (left_is _ _ _ _ _ q1 m HM.out).mono ?_
          rintro e w' ⟨rfl, n1, rfl⟩
          go_wp2_with fail
          refine (wrong_no _ _ _ _ (rd_drew q1 n1)).mono ?_
          rintro e w' ⟨rfl, rfl⟩
          have r3 := r2'.trans ((drewN_below W1 n1).mono (Nat.le_trans e0 r2'.size))
          go_wp2_with fail
          go_roundw
          case rel => exact ⟨k + 1, a', 0, by omega, by go_num, rfl, rd_drew q1 n1, r3⟩
          case measure => simp [intOf]; omega
        · obtain rfl : a' = a := hst he
          have hb : (er != 0) = true := by simpa using he
          have hb2 : (er == 0) = false := by simpa using he
          clear hle' hst
          by_cases hw : wr = 0
          · subst hw
            clear hag
            go_wp2_with fail
            refine (at_any _ _ _ _ _ q1).mono ?_
            rintro e w' ⟨rfl, rfl⟩
            go_wp2_with fail
            refine (at_any _ _ _ _ _ q1).mono ?_
            rintro e w' ⟨rfl, rfl⟩
            go_wp2_with fail
            refine (left_is _ _ _ _ _ q1 m HM.out).mono ?_
            rintro e w' ⟨rfl, n1, rfl⟩
            go_wp2_with fail
            refine (at_any _ _ _ _ _ (rd_drew q1 n1)).mono ?_
            rintro e w' ⟨rfl, rfl⟩
            go_wp2_with fail
            refine (wrong_yes _ _ _ _ he _ (rd_drew q1 n1)).mono ?_
            rintro e w' ⟨rfl, n2, rfl⟩
            go_wp2_with fail
            refine (at_any _ _ _ _ _ (rd_drew q1 (n1 + n2))).mono ?_
            rintro e w' ⟨rfl, rfl⟩
            have r3 := r2'.trans ((drewN_below W1 (n1 + n2)).mono (Nat.le_trans e0 r2'.size))
            go_wp2_with fail
            go_roundw
            case rel => exact ⟨k + 1, a', er, by omega, by go_num, rfl, rd_drew q1 (n1 + n2), r3⟩
            case measure => simp [intOf]; omega
          · obtain rfl : er = wr := hag hw
            clear hag hw
            go_wp2_with fail
            refine (at_any _ _ _ _ _ q1).mono ?_
            rintro e w' ⟨rfl, rfl⟩
            go_wp2_with fail
            refine (at_any _ _ _ _ _ q1).mono ?_
            rintro e w' ⟨rfl, rfl⟩
            go_wp2_with fail
            refine (left_is _ _ _ _ _ q1 m HM.out).mono ?_
            rintro e w' ⟨rfl, n1, rfl⟩
            go_wp2_with fail
            refine (at_any _ _ _ _ _ (rd_drew q1 n1)).mono ?_
            rintro e w' ⟨rfl, rfl⟩
            go_wp2_with fail
            refine (wrong_yes _ _ _ _ he _ (rd_drew q1 n1)).mono ?_
            rintro e w' ⟨rfl, n2, rfl⟩
            go_wp2_with fail
            refine (at_any _ _ _ _ _ (rd_drew q1 (n1 + n2))).mono ?_
            rintro e w' ⟨rfl, rfl⟩
            have r3 := r2'.trans ((drewN_below W1 (n1 + n2)).mono (Nat.le_trans e0 r2'.size))
            go_wp2_with fail
            go_roundw
            case rel => exact ⟨k + 1, a', er, by omega, by go_num, rfl, rd_drew q1 (n1 + n2), r3⟩
            case measure => simp [intOf]; omega
      · have e0' : (((nth L k).kind : Int) == 0) = false := by simp; omega
        by_cases k1 : (nth L k).kind = 1
        · have k1' : ((nth L k).kind : Int) = 1 := by omega
          rw [k1'] at d0
          clear k1'
          have hK : Kept a wr (rNum ((nth L k).n : Int) s a wr).2.1 (rNum ((nth L k).n : Int) s a wr).2.2.1 (rNum ((nth L k).n : Int) s a wr).2.2.2 := kept_rd (0 : Int) a wr (tNum ((nth L k).n : Int) (s.data.toList.drop a))
          go_wp2_with fail
          refine (at_any _ _ _ _ _ rd).mono ?_
          rintro e w' ⟨rfl, rfl⟩
          go_wp2_with fail
          refine (rNum_any ((nth L k).n : Int) _ _ _ _ _ rd).mono ?_
          rintro e W1 ⟨rfl, q1, q2⟩
          generalize (rNum ((nth L k).n : Int) s a wr).1 = xv at *
          generalize (rNum ((nth L k).n : Int) s a wr).2.1 = er at *
          generalize (rNum ((nth L k).n : Int) s a wr).2.2.1 = a' at *
          generalize (rNum ((nth L k).n : Int) s a wr).2.2.2 = wr' at *
          obtain ⟨hle, hst, hag, rfl⟩ := hK
          have r2' := r2.trans (q2.below0 (B0 := B0) e1 (Nat.le_trans e0 r2.size))
          clear q2 r2 rd d0 d1 d2 d3 d4
          have has' := q1.2.1
          obtain ⟨m, hm⟩ : ∃ m, s.size - a' = m := ⟨_, rfl⟩
          have hsum : ((a' : Int) + (m : Int) != (s.size : Int)) = false := by simp; omega
          have hmz : (a' : Int) + (m : Int) ≤ 16777216 := by omega
          have HM := Lib.hid hm
          have hle' : (a : Int) ≤ (a' : Int) := by omega
          clear hm hle has
          by_cases he : er = 0
          · subst he
            have hw : wr = 0 := by
              by_cases hc : wr = 0
              · exact hc
              · exact absurd (hag hc).symm hc
            subst hw
            clear hag hst
            go_wp2_with fail
            refine (at_any _ _ _ _ _ q1).mono ?_
            rintro e w' ⟨rfl, rfl⟩
            go_wp2_with fail
            refine (at_any _ _ _ _ _ q1).mono ?_
            rintro e w' ⟨rfl, rfl⟩
            go_wp2_with fail
            refine (left_is _ _ _ _ _ q1 m HM.out).mono ?_
            rintro e w' ⟨rfl, n1, rfl⟩
            go_wp2_with fail
            refine (wrong_no _ _ _ _ (rd_drew q1 n1)).mono ?_
            rintro e w' ⟨rfl, rfl⟩
            have r3 := r2'.trans ((drewN_below W1 n1).mono (Nat.le_trans e0 r2'.size))
            go_wp2_with fail
            go_roundw
            case rel => exact ⟨k + 1, a', 0, by omega, by go_num, rfl, rd_drew q1 n1, r3⟩
            case measure => simp [intOf]; omega
          · obtain rfl : a' = a := hst he
            have hb : (er != 0) = true := by simpa using he
            have hb2 : (er == 0) = false := by simpa using he
            clear hle' hst
            by_cases hw : wr = 0
            · subst hw
              clear hag
              go_wp2_with fail
              refine (at_any _ _ _ _ _ q1).mono ?_
              rintro e w' ⟨rfl, rfl⟩
              go_wp2_with fail
              refine (at_any _ _ _ _ _ q1).mono ?_
              rintro e w' ⟨rfl, rfl⟩
              go_wp2_with fail
              refine (left_is _ _ _ _ _ q1 m HM.out).mono ?_
              rintro e w' ⟨rfl, n1, rfl⟩
              go_wp2_with fail
              refine (at_any _ _ _ _ _ (rd_drew q1 n1)).mono ?_
              rintro e w' ⟨rfl, rfl⟩
              go_wp2_with fail
              refine (wrong_yes _ _ _ _ he _ (rd_drew q1 n1)).mono ?_
              rintro e w' ⟨rfl, n2, rfl⟩
              go_wp2_with fail
              refine (at_any _ _ _ _ _ (rd_drew q1 (n1 + n2))).mono ?_
              rintro e w' ⟨rfl, rfl⟩
              have r3 := r2'.trans ((drewN_below W1 (n1 + n2)).mono (Nat.le_trans e0 r2'.size))
              go_wp2_with fail
              go_roundw
              case rel => exact ⟨k + 1, a', er, by omega, by go_num, rfl, rd_drew q1 (n1 + n2), r3⟩
              case measure => simp [intOf]; omega
            · obtain rfl : er = wr := hag hw
              clear hag hw
              go_wp2_with fail
              refine (at_any _ _ _ _ _ q1).mono ?_
              rintro e w' ⟨rfl, rfl⟩
              go_wp2_with fail
              refine (at_any _ _ _ _ _ q1).mono ?_
              rintro e w' ⟨rfl, rfl⟩
              go_wp2_with fail
              refine (left_is _ _ _ _ _ q1 m HM.out).mono ?_
              rintro e w' ⟨rfl, n1, rfl⟩
              go_wp2_with fail
              refine (at_any _ _ _ _ _ (rd_drew q1 n1)).mono ?_
              rintro e w' ⟨rfl, rfl⟩
              go_wp2_with fail
              refine (wrong_yes _ _ _ _ he _ (rd_drew q1 n1)).mono ?_
              rintro e w' ⟨rfl, n2, rfl⟩
              go_wp2_with fail
              refine (at_any _ _ _ _ _ (rd_drew q1 (n1 + n2))).mono ?_
              rintro e w' ⟨rfl, rfl⟩
              have r3 := r2'.trans ((drewN_below W1 (n1 + n2)).mono (Nat.le_trans e0 r2'.size))
              go_wp2_with fail
              go_roundw
              case rel => exact ⟨k + 1, a', er, by omega, by go_num, rfl, rd_drew q1 (n1 + n2), r3⟩
              case measure => simp [intOf]; omega
        · have e1' : (((nth L k).kind : Int) == 1) = false := by simp; omega
          by_cases k2 : (nth L k).kind = 2
          · have k2' : ((nth L k).kind : Int) = 2 := by omega
            rw [k2'] at d0
            clear k2'
            have hK : Kept a wr (rInt s a wr).2.1 (rInt s a wr).2.2.1 (rInt s a wr).2.2.2 := kept_rd (0 : Int) a wr (tInt (s.data.toList.drop a))
            go_wp2_with fail
            refine (at_any _ _ _ _ _ rd).mono ?_
            rintro e w' ⟨rfl, rfl⟩
            go_wp2_with fail
            refine (rInt_any _ _ _ _ _ rd).mono ?_
            rintro e W1 ⟨rfl, q1, q2⟩
            generalize (rInt s a wr).1 = xv at *
            generalize (rInt s a wr).2.1 = er at *
            generalize (rInt s a wr).2.2.1 = a' at *
            generalize (rInt s a wr).2.2.2 = wr' at *
            obtain ⟨hle, hst, hag, rfl⟩ := hK
            have r2' := r2.trans (q2.below0 (B0 := B0) e1 (Nat.le_trans e0 r2.size))
            clear q2 r2 rd d0 d1 d2 d3 d4
            have has' := q1.2.1
            obtain ⟨m, hm⟩ : ∃ m, s.size - a' = m := ⟨_, rfl⟩
            have hsum : ((a' : Int) + (m : Int) != (s.size : Int)) = false := by simp; omega
            have hmz : (a' : Int) + (m : Int) ≤ 16777216 := by omega
            have HM := Lib.hid hm
            have hle' : (a : Int) ≤ (a' : Int) := by omega
            clear hm hle has
            by_cases he : er = 0
            · subst he
              have hw : wr = 0 := by
                by_cases hc : wr = 0
                · exact hc
                · exact absurd (hag hc).symm hc
              subst hw
              clear hag hst
              go_wp2_with fail
              refine (at_any _ _ _ _ _ q1).mono ?_
              rintro e w' ⟨rfl, rfl⟩
              go_wp2_with fail
              refine (at_any _ _ _ _ _ q1).mono ?_
              rintro e w' ⟨rfl, rfl⟩
              go_wp2_with fail
              refine (left_is _ _ _ _ _ q1 m HM.out).mono ?_
              rintro e w' ⟨rfl, n1, rfl⟩
              go_wp2_with fail
              refine (wrong_no _ _ _ _ (rd_drew q1 n1)).mono ?_
              rintro e w' ⟨rfl, rfl⟩
              have r3 := r2'.trans ((drewN_below W1 n1).mono (Nat.le_trans e0 r2'.size))
              go_wp2_with fail
              go_roundw
              case rel => exact ⟨k + 1, a', 0, by omega, by go_num, rfl, rd_drew q1 n1, r3⟩
              case measure => simp [intOf]; omega
            · obtain rfl : a' = a := hst he
              have hb : (er != 0) = true := by simpa using he
              have hb2 : (er == 0) = false := by simpa using he
              clear hle' hst
              by_cases hw : wr = 0
              · subst hw
                clear hag
                go_wp2_with fail
                refine (at_any _ _ _ _ _ q1).mono ?_
                rintro e w' ⟨rfl, rfl⟩
                go_wp2_with fail
                refine (at_any _ _ _ _ _ q1).mono ?_
                rintro e w' ⟨rfl, rfl⟩
                go_wp2_with fail
                refine (left_is _ _ _ _ _ q1 m HM.out).mono ?_
                rintro e w' ⟨rfl, n1, rfl⟩
                go_wp2_with fail
                refine (at_any _ _ _ _ _ (rd_drew q1 n1)).mono ?_
                rintro e w' ⟨rfl, rfl⟩
                go_wp2_with fail
                refine (wrong_yes _ _ _ _ he _ (rd_drew q1 n1)).mono ?_
                rintro e w' ⟨rfl, n2, rfl⟩
                go_wp2_with fail
                refine (at_any _ _ _ _ _ (rd_drew q1 (n1 + n2))).mono ?_
                rintro e w' ⟨rfl, rfl⟩
                have r3 := r2'.trans ((drewN_below W1 (n1 + n2)).mono (Nat.le_trans e0 r2'.size))
                go_wp2_with fail
                go_roundw
                case rel => exact ⟨k + 1, a', er, by omega, by go_num, rfl, rd_drew q1 (n1 + n2), r3⟩
                case measure => simp [intOf]; omega
              · obtain rfl : er = wr := hag hw
                clear hag hw
                go_wp2_with fail
                refine (at_any _ _ _ _ _ q1).mono ?_
                rintro e w' ⟨rfl, rfl⟩
                go_wp2_with fail
                refine (at_any _ _ _ _ _ q1).mono ?_
                rintro e w' ⟨rfl, rfl⟩
                go_wp2_with fail
                refine (left_is _ _ _ _ _ q1 m HM.out).mono ?_
                rintro e w' ⟨rfl, n1, rfl⟩
                go_wp2_with fail
                refine (at_any _ _ _ _ _ (rd_drew q1 n1)).mono ?_
                rintro e w' ⟨rfl, rfl⟩
                go_wp2_with fail
                refine (wrong_yes _ _ _ _ he _ (rd_drew q1 n1)).mono ?_
                rintro e w' ⟨rfl, n2, rfl⟩
                go_wp2_with fail
                refine (at_any _ _ _ _ _ (rd_drew q1 (n1 + n2))).mono ?_
                rintro e w' ⟨rfl, rfl⟩
                have r3 := r2'.trans ((drewN_below W1 (n1 + n2)).mono (Nat.le_trans e0 r2'.size))
                go_wp2_with fail
                go_roundw
                case rel => exact ⟨k + 1, a', er, by omega, by go_num, rfl, rd_drew q1 (n1 + n2), r3⟩
                case measure => simp [intOf]; omega
          · have e2' : (((nth L k).kind : Int) == 2) = false := by simp; omega
            by_cases k3 : (nth L k).kind = 3
            · have k3' : ((nth L k).kind : Int) = 3 := by omega
              rw [k3'] at d0
              clear k3'
              have hK : Kept a wr (rRaw (nth L k).k s a wr).2.1 (rRaw (nth L k).k s a wr).2.2.1 (rRaw (nth L k).k s a wr).2.2.2 := kept_rd (bs []) a wr (tRaw (nth L k).k (s.data.toList.drop a))
              go_wp2_with fail
              refine (at_any _ _ _ _ _ rd).mono ?_
              rintro e w' ⟨rfl, rfl⟩
              go_wp2_with fail
              refine (rRaw_any (nth L k).k _ _ _ _ _ rd).mono ?_
              rintro e W1 ⟨rfl, q1, q2⟩
              generalize (rRaw (nth L k).k s a wr).1 = xv at *
              generalize (rRaw (nth L k).k s a wr).2.1 = er at *
              generalize (rRaw (nth L k).k s a wr).2.2.1 = a' at *
              generalize (rRaw (nth L k).k s a wr).2.2.2 = wr' at *
              obtain ⟨hle, hst, hag, rfl⟩ := hK
              have r2' := r2.trans (q2.below0 (B0 := B0) e1 (Nat.le_trans e0 r2.size))
              clear q2 r2 rd d0 d1 d2 d3 d4
              have has' := q1.2.1
              obtain ⟨m, hm⟩ : ∃ m, s.size - a' = m := ⟨_, rfl⟩
              have hsum : ((a' : Int) + (m : Int) != (s.size : Int)) = false := by simp; omega
              have hmz : (a' : Int) + (m : Int) ≤ 16777216 := by omega
              have HM := Lib.hid hm
              have hle' : (a : Int) ≤ (a' : Int) := by omega
              clear hm hle has
              by_cases he : er = 0
              · subst he
                have hw : wr = 0 := by
                  by_cases hc : wr = 0
                  · exact hc
                  · exact absurd (hag hc).symm hc
                subst hw
                clear hag hst
                go_wp2_with fail
                refine (at_any _ _ _ _ _ q1).mono ?_
                rintro e w' ⟨rfl, rfl⟩
                go_wp2_with fail
                refine (at_any _ _ _ _ _ q1).mono ?_
                rintro e w' ⟨rfl, rfl⟩
                go_wp2_with fail
                refine (left_is _ _ _ _ _ q1 m HM.out).mono ?_
                rintro e w' ⟨rfl, n1, rfl⟩
                go_wp2_with fail
                refine (wrong_no _ _ _ _ (rd_drew q1 n1)).mono ?_
                rintro e w' ⟨rfl, rfl⟩
                have r3 := r2'.trans ((drewN_below W1 n1).mono (Nat.le_trans e0 r2'.size))
                go_wp2_with fail
                go_roundw
                case rel => exact ⟨k + 1, a', 0, by omega, by go_num, rfl, rd_drew q1 n1, r3⟩
                case measure => simp [intOf]; omega
              · obtain rfl : a' = a := hst he
                have hb : (er != 0) = true := by simpa using he
                have hb2 : (er == 0) = false := by simpa using he
                clear hle' hst
                by_cases hw : wr = 0
                · subst hw
                  clear hag
                  go_wp2_with fail
                  refine (at_any _ _ _ _ _ q1).mono ?_
                  rintro e w' ⟨rfl, rfl⟩
                  go_wp2_with fail
                  refine (at_any _ _ _ _ _ q1).mono ?_
                  rintro e w' ⟨rfl, rfl⟩
                  go_wp2_with fail
                  refine (left_is _ _ _ _ _ q1 m HM.out).mono ?_
                  rintro e w' ⟨rfl, n1, rfl⟩
                  go_wp2_with fail
                  refine (at_any _ _ _ _ _ (rd_drew q1 n1)).mono ?_
                  rintro e w' ⟨rfl, rfl⟩
                  go_wp2_with fail
                  refine (wrong_yes _ _ _ _ he _ (rd_drew q1 n1)).mono ?_
                  rintro e w' ⟨rfl, n2, rfl⟩
                  go_wp2_with fail
                  refine (at_any _ _ _ _ _ (rd_drew q1 (n1 + n2))).mono ?_
                  rintro e w' ⟨rfl, rfl⟩
                  have r3 := r2'.trans ((drewN_below W1 (n1 + n2)).mono (Nat.le_trans e0 r2'.size))
                  go_wp2_with fail
                  go_roundw
                  case rel => exact ⟨k + 1, a', er, by omega, by go_num, rfl, rd_drew q1 (n1 + n2), r3⟩
                  case measure => simp [intOf]; omega
                · obtain rfl : er = wr := hag hw
                  clear hag hw
                  go_wp2_with fail
                  refine (at_any _ _ _ _ _ q1).mono ?_
                  rintro e w' ⟨rfl, rfl⟩
                  go_wp2_with fail
                  refine (at_any _ _ _ _ _ q1).mono ?_
                  rintro e w' ⟨rfl, rfl⟩
                  go_wp2_with fail
                  refine (left_is _ _ _ _ _ q1 m HM.out).mono ?_
                  rintro e w' ⟨rfl, n1, rfl⟩
                  go_wp2_with fail
                  refine (at_any _ _ _ _ _ (rd_drew q1 n1)).mono ?_
                  rintro e w' ⟨rfl, rfl⟩
                  go_wp2_with fail
                  refine (wrong_yes _ _ _ _ he _ (rd_drew q1 n1)).mono ?_
                  rintro e w' ⟨rfl, n2, rfl⟩
                  go_wp2_with fail
                  refine (at_any _ _ _ _ _ (rd_drew q1 (n1 + n2))).mono ?_
                  rintro e w' ⟨rfl, rfl⟩
                  have r3 := r2'.trans ((drewN_below W1 (n1 + n2)).mono (Nat.le_trans e0 r2'.size))
                  go_wp2_with fail
                  go_roundw
                  case rel => exact ⟨k + 1, a', er, by omega, by go_num, rfl, rd_drew q1 (n1 + n2), r3⟩
                  case measure => simp [intOf]; omega
            · have e3' : (((nth L k).kind : Int) == 3) = false := by simp; omega
              by_cases k4 : (nth L k).kind = 4
              · have k4' : ((nth L k).kind : Int) = 4 := by omega
                rw [k4'] at d0
                clear k4'
                go_wp2_with fail
                refine (at_any _ _ _ _ _ rd).mono ?_
                rintro e w' ⟨rfl, rfl⟩
                go_wp2_with fail
                go_roundw
                case rel => exact ⟨k + 1, a, wr, by omega, by go_num, rfl, rd, r2⟩
                case measure => simp [intOf]; omega
              · have e4' : (((nth L k).kind : Int) == 4) = false := by simp; omega
                have hK : Kept a wr (rEnd s a wr).2.1 (rEnd s a wr).2.2.1 (rEnd s a wr).2.2.2 := kept_rd (0 : Int) a wr (tEnd (s.data.toList.drop a))
                go_wp2_with fail
                refine (at_any _ _ _ _ _ rd).mono ?_
                rintro e w' ⟨rfl, rfl⟩
                go_wp2_with fail
                refine (rEnd_any _ _ _ _ _ rd).mono ?_
                rintro e W1 ⟨rfl, q1, q2⟩
                generalize (rEnd s a wr).2.1 = er at *
                generalize (rEnd s a wr).2.2.1 = a' at *
                generalize (rEnd s a wr).2.2.2 = wr' at *
                obtain ⟨hle, hst, hag, rfl⟩ := hK
                have r2' := r2.trans (q2.below0 (B0 := B0) e1 (Nat.le_trans e0 r2.size))
                clear q2 r2 rd d0 d1 d2 d3 d4
                have has' := q1.2.1
                obtain ⟨m, hm⟩ : ∃ m, s.size - a' = m := ⟨_, rfl⟩
                have hsum : ((a' : Int) + (m : Int) != (s.size : Int)) = false := by simp; omega
                have hmz : (a' : Int) + (m : Int) ≤ 16777216 := by omega
                have HM := Lib.hid hm
                have hle' : (a : Int) ≤ (a' : Int) := by omega
                clear hm hle has
                by_cases he : er = 0
                · subst he
                  have hw : wr = 0 := by
                    by_cases hc : wr = 0
                    · exact hc
                    · exact absurd (hag hc).symm hc
                  subst hw
                  clear hag hst
                  go_wp2_with fail
                  refine (at_any _ _ _ _ _ q1).mono ?_
                  rintro e w' ⟨rfl, rfl⟩
                  go_wp2_with fail
                  refine (at_any _ _ _ _ _ q1).mono ?_
                  rintro e w' ⟨rfl, rfl⟩
                  go_wp2_with fail
                  refine (left_is _ _ _ _ _ q1 m HM.out).mono ?_
                  rintro e w' ⟨rfl, n1, rfl⟩
                  go_wp2_with fail
                  refine (wrong_no _ _ _ _ (rd_drew q1 n1)).mono ?_
                  rintro e w' ⟨rfl, rfl⟩
                  have r3 := r2'.trans ((drewN_below W1 n1).mono (Nat.le_trans e0 r2'.size))
                  go_wp2_with fail
                  go_roundw
                  case rel => exact ⟨k + 1, a', 0, by omega, by go_num, rfl, rd_drew q1 n1, r3⟩
                  case measure => simp [intOf]; omega
                · obtain rfl : a' = a := hst he
                  have hb : (er != 0) = true := by simpa using he
                  have hb2 : (er == 0) = false := by simpa using he
                  clear hle' hst
                  by_cases hw : wr = 0
                  · subst hw
                    clear hag
                    go_wp2_with fail
                    refine (at_any _ _ _ _ _ q1).mono ?_
                    rintro e w' ⟨rfl, rfl⟩
                    go_wp2_with fail
                    refine (at_any _ _ _ _ _ q1).mono ?_
                    rintro e w' ⟨rfl, rfl⟩
                    go_wp2_with fail
                    refine (left_is _ _ _ _ _ q1 m HM.out).mono ?_
                    rintro e w' ⟨rfl, n1, rfl⟩
                    go_wp2_with fail
                    refine (at_any _ _ _ _ _ (rd_drew q1 n1)).mono ?_
                    rintro e w' ⟨rfl, rfl⟩
                    go_wp2_with fail
                    refine (wrong_yes _ _ _ _ he _ (rd_drew q1 n1)).mono ?_
                    rintro e w' ⟨rfl, n2, rfl⟩
                    go_wp2_with fail
                    refine (at_any _ _ _ _ _ (rd_drew q1 (n1 + n2))).mono ?_
                    rintro e w' ⟨rfl, rfl⟩
                    have r3 := r2'.trans ((drewN_below W1 (n1 + n2)).mono (Nat.le_trans e0 r2'.size))
                    go_wp2_with fail
                    go_roundw
                    case rel => exact ⟨k + 1, a', er, by omega, by go_num, rfl, rd_drew q1 (n1 + n2), r3⟩
                    case measure => simp [intOf]; omega
                  · obtain rfl : er = wr := hag hw
                    clear hag hw
                    go_wp2_with fail
                    refine (at_any _ _ _ _ _ q1).mono ?_
                    rintro e w' ⟨rfl, rfl⟩
                    go_wp2_with fail
                    refine (at_any _ _ _ _ _ q1).mono ?_
                    rintro e w' ⟨rfl, rfl⟩
                    go_wp2_with fail
                    refine (left_is _ _ _ _ _ q1 m HM.out).mono ?_
                    rintro e w' ⟨rfl, n1, rfl⟩
                    go_wp2_with fail
                    refine (at_any _ _ _ _ _ (rd_drew q1 n1)).mono ?_
                    rintro e w' ⟨rfl, rfl⟩
                    go_wp2_with fail
                    refine (wrong_yes _ _ _ _ he _ (rd_drew q1 n1)).mono ?_
                    rintro e w' ⟨rfl, n2, rfl⟩
                    go_wp2_with fail
                    refine (at_any _ _ _ _ _ (rd_drew q1 (n1 + n2))).mono ?_
                    rintro e w' ⟨rfl, rfl⟩
                    have r3 := r2'.trans ((drewN_below W1 (n1 + n2)).mono (Nat.le_trans e0 r2'.size))
                    go_wp2_with fail
                    go_roundw
                    case rel => exact ⟨k + 1, a', er, by omega, by go_num, rfl, rd_drew q1 (n1 + n2), r3⟩
                    case measure => simp [intOf]; omega
    · go_wp2_with fail
      go_ret
      exact ⟨rfl, r2⟩

theorem BytesPlaces_walk (s : ByteArray) (hz : s.size ≤ maxLen) (A : Option Addr) (c : Nat) (L : List StepV) (hl : L.length ≤ 9223372036854775807) (w : World) (hs : Steps w w.heap.size A L) :
    Calls Try.prog 7 #[.string s, .slice A L.length c] w fun e w' => e = .returned (.bool true) ∧ Below w.heap.size w w' := by
  unfold maxLen at hz
  by_cases h : 5000 < s.size ∨ ¬ Small L
  · exact places_big s hz A c L w hl hs h
  · by_cases h1 : Small L
    · exact places_ok s (by omega) A c L w hs h1
    · exact absurd (Or.inr h1) h

theorem BytesPlaces_laid : laidOutB Try.prog = true := by kernel_rfl
set_option maxRecDepth 100000 in
theorem BytesPlaces_lifted (os : Os) (started : os.Started) (H : Type) (enc : TypeId × Value → H) :
    ReturnsInHanded {} Try.checked os 7 .any (Rows.bytesPlacesSpec.pre6 enc Try.prog Try.f7 Rows.bytesPlacesRow.domain false) (Rows.bytesPlacesSpec.post enc Try.prog Try.f7 false true false false) := by
  refine returnsInHanded_of_change (C := Try.checked) lift_own started (by kernel_rfl) Try.func7
    (ChangeSpec.witness6 (enc := enc) (C := Try.checked) false ⟨#[], #[.string ⟨#[]⟩, .slice none 0 0], []⟩ 8 (by kernel_rfl) (by kernel_rfl) (by kernel_rfl) (by kernel_rfl)) ?_
  intro W base args ds gs before hval0 hW hcnd _
  have hval : ∀ (j : Nat) t v, Try.f7.params[j]? = some t → args[j]? = some v → Value.okWide Try.prog W .any base t v := hval0
  have hW' := hW
  obtain ⟨p, q, hA0, hV, rfl, hfz, hnd⟩ := hW
  have hA : DataW.TrodAll enc Try.prog W 0 (fun _ => true) true Try.f7.params.toList args.toList ds p := hA0
  rw [Try.params7] at hA hval
  obtain ⟨v0, vs0, d0, ds0, p0, q0, hargs, rfl, rfl, h0, r0⟩ := trodAll_cons hA
  obtain ⟨v1, vs1, d1, ds1, p1, q1, rfl, rfl, rfl, h1, r1⟩ := trodAll_cons r0
  obtain ⟨rfl, rfl, rfl⟩ := trodAll_nil r1
  obtain rfl : args = #[v0, v1] := by cases args; simp_all
  obtain ⟨rfl, rfl⟩ := trodVars_none hV
  obtain ⟨a0, rfl, rfl, rfl, w0⟩ := open_string Try.underlying9 (hval 0 9 v0 rfl rfl) h0
  obtain ⟨A1, c1, L1, rfl, wl1, ws1⟩ := open_steps (hval 1 22 v1 rfl rfl) h1
  clear hA0 hval0
  simp only [List.append_nil, List.nil_append] at hW'
  refine (BytesPlaces_walk a0 w0 A1 c1 L1 wl1 W ws1).mono fun e W' ⟨he, hg⟩ => ?_
  subst he
  exact ⟨_, rfl, lift_post (pv := []) hW' (fun _ _ _ => (trodAll_cons_mk (shut_bool Try.underlying4 _) trodAll_mk0)) (fun sp hsp => (trodAll_cons_mk (shut_string Try.underlying9 w0) (trodAll_cons_mk (WideElems.Trod_stays BytesPlaces_laid (by kernel_rfl) (of_decide_eq_true (by kernel_rfl)) h1 (fun x hx => hg.same (hW'.lt x (by simp [hx]))) (fun x hx => hsp x (by simp [hx]))) trodAll_mk0))) (fun _ _ => rfl) (by simp)
    hg (ok_one (by kernel_rfl) rfl (okWide_bool_mk Try.underlying4 _))⟩

/-- THE STATEMENT of BytesPlaces: for every input the call returns true, and each argument reads behind it as before. -/
theorem BytesPlaces_holds : Rows.BytesPlacesSaid :=
  OpenClaim.holds_of_wide 7 Try.f7 rfl rfl rfl rfl rfl rfl rfl ⟨rfl, rfl, rfl, rfl, rfl⟩ rfl rfl rfl rfl rfl (by kernel_rfl) Try.func7 (by kernel_rfl)
    (of_decide_eq_true (by kernel_rfl)) (by unfold Func.isWrapper; first | (rw [if_pos (by decide +kernel)]; kernel_rfl) | (rw [if_neg (by decide +kernel)]; exact ⟨rfl, rfl⟩))
    (fun os started H enc _ => BytesPlaces_lifted os started H enc)

end Go.Proofs.Ytieaacenobgdjaa
