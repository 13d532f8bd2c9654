/-
  PLAIN: the chapter's examples of texts; and the contract of the law's awake. Conditions: as they stand.
-/
import Derived.Test.YtfbnigikofidoaaDoorWq
namespace Go.Proofs.YtfbnigikofidoaaDoor
set_option maxRecDepth 100000
open Go.RowKit
set_option linter.unusedVariables false
theorem dig1 {i : Nat} (h : i < 10) : Lib.decDigits i = [UInt8.ofNat (48 + i)] := by rw [Lib.decDigits, dif_pos h]
theorem itoa1 {i : Nat} (h : i < 10) : Lib.itoa (i : Int) = [UInt8.ofNat (48 + i)] := by
  unfold Lib.itoa
  rw [if_neg (by omega), Int.toNat_natCast, dig1 h]
theorem showR_yes {e : Ev} (t : List UInt8) (h : mayB e 6 32 32 = true) (h2 : showF e = t) : showR e = .tuple #[.string (bsW t), .int .i64 0] := by unfold showR; rw [if_pos h, h2]
theorem show_look : showF ⟨2, 2, 0, 3, 7, 0, 0⟩ = [50, 32, 108, 111, 111, 107, 32, 51, 32, 55] := by
  show Lib.join [Lib.decDigits 2, nmL 2, Lib.itoa ((3 : Nat) : Int), Lib.itoa ((7 : Nat) : Int)] [32] = _
  rw [dig1 (by omega), itoa1 (by omega), itoa1 (by omega)]
  rfl
theorem show_full : showF ⟨10, 0, 0, 0, 0, 0, 6⟩ = [48, 32, 97, 98, 111, 114, 116, 32, 54, 32, 48] := by
  show Lib.join [Lib.decDigits 0, nmL 10, Lib.itoa ((6 : Nat) : Int), Lib.itoa ((0 : Nat) : Int)] [32] = _
  rw [dig1 (by omega), itoa1 (by omega), itoa1 (by omega)]
  rfl
theorem show_wait1 : showF ⟨12, 1, 0, 0, 0, 0, 0⟩ = [49, 32, 119, 97, 105, 116] := by
  show Lib.join [Lib.decDigits 1, nmL 12] [32] = _
  rw [dig1 (by omega)]
  rfl
theorem parse_bad {s : List UInt8} (e : Ev) (h : readF s = e) (h2 : mayB e 6 32 32 = false ∨ showF e ≠ s) : parseF s = (ev0, 4) := by
  unfold parseF
  rw [h, if_neg]
  rintro ⟨a, b⟩
  rcases h2 with h2 | h2
  · rw [h2] at a; cases a
  · exact h2 b
theorem parse_wait1 : parseF [49, 32, 119, 97, 105, 116] = (⟨12, 1, 0, 0, 0, 0, 0⟩, 0) := by
  have := parse_show (e := ⟨12, 1, 0, 0, 0, 0, 0⟩) (by kernel_rfl)
  rwa [show_wait1] at this
theorem parse_x1 : parseF [49, 32, 119, 97, 105, 116, 32, 48] = (ev0, 4) := parse_bad ⟨12, 1, 0, 0, 0, 0, 0⟩ (by kernel_rfl) (.inr (by rw [show_wait1]; decide))
theorem parse_x2 : parseF [48, 49, 32, 119, 97, 105, 116] = (ev0, 4) := parse_bad ⟨12, 1, 0, 0, 0, 0, 0⟩ (by kernel_rfl) (.inr (by rw [show_wait1]; decide))
theorem parse_x3 : parseF [49, 32, 98, 117, 109, 112, 32, 48] = (ev0, 4) := parse_bad ⟨5, 1, 0, 0, 0, 0, 0⟩ (by kernel_rfl) (.inl (by kernel_rfl))
theorem parse_refused (s : ByteArray) (hs : s.size ≤ 281474976710656) (h : parseF s.data.toList = (ev0, 4)) (w : World) (he : Ek w) :
    Calls Tryd.prog 7 #[.string s] w fun r w' => r = .returned (.tuple #[.agg #[.int .u8 0, .int .i64 0, .int .i64 0, .int .i64 0, .int .i64 0, .int .i64 0, .int .u8 0], .int .i64 4]) ∧ Below w.heap.size w w' := by
  have := parse_any s hs w he
  unfold parseR at this
  rw [h] at this
  exact this
theorem ev_okc (e : Ev) (h : (decide (0 ≤ e.kd) && decide (e.kd ≤ 255) && decide (0 ≤ e.why) && decide (e.why ≤ 255) && decide (-9223372036854775808 ≤ e.th) && decide (e.th ≤ 9223372036854775807) && decide (-9223372036854775808 ≤ e.tx) && decide (e.tx ≤ 9223372036854775807) && decide (-9223372036854775808 ≤ e.pl) && decide (e.pl ≤ 9223372036854775807) && decide (-9223372036854775808 ≤ e.v) && decide (e.v ≤ 9223372036854775807) && decide (-9223372036854775808 ≤ e.x) && decide (e.x ≤ 9223372036854775807)) = true) : EvOk e := by
  simp only [Bool.and_eq_true, decide_eq_true_eq] at h
  constructor <;> omega
set_option maxRecDepth 100000 in
set_option maxHeartbeats 4000000 in
theorem awake_any (w : World) (he : Ek w) :
    Calls Tryd.prog 4 #[] w fun r w' => r = .returned (.bool true) ∧ Below w.heap.size w w' := by
  have H1 : Hid (∀ w1, Below w.heap.size w w1 → Calls Tryd.prog 5 #[.agg #[.int .u8 2, .int .i64 2, .int .i64 0, .int .i64 3, .int .i64 7, .int .i64 0, .int .u8 0]] w1 fun r w' => r = .returned (.tuple #[.string ⟨#[50, 32, 108, 111, 111, 107, 32, 51, 32, 55]⟩, .int .i64 0]) ∧ Below w1.heap.size w1 w') := fun w1 b => by
    have := show_any ⟨2, 2, 0, 3, 7, 0, 0⟩ (ev_okc _ (by kernel_rfl)) w1 (he.below b)
    rw [showR_yes _ (by kernel_rfl) show_look] at this
    exact this
  have H2 : Hid (∀ w1, Below w.heap.size w w1 → Calls Tryd.prog 5 #[.agg #[.int .u8 10, .int .i64 0, .int .i64 0, .int .i64 0, .int .i64 0, .int .i64 0, .int .u8 6]] w1 fun r w' => r = .returned (.tuple #[.string ⟨#[48, 32, 97, 98, 111, 114, 116, 32, 54, 32, 48]⟩, .int .i64 0]) ∧ Below w1.heap.size w1 w') := fun w1 b => by
    have := show_any ⟨10, 0, 0, 0, 0, 0, 6⟩ (ev_okc _ (by kernel_rfl)) w1 (he.below b)
    rw [showR_yes _ (by kernel_rfl) show_full] at this
    exact this
  have H3 : Hid (∀ w1, Below w.heap.size w w1 → Calls Tryd.prog 7 #[.string ⟨#[49, 32, 119, 97, 105, 116]⟩] w1 fun r w' => r = .returned (.tuple #[.agg #[.int .u8 12, .int .i64 1, .int .i64 0, .int .i64 0, .int .i64 0, .int .i64 0, .int .u8 0], .int .i64 0]) ∧ Below w1.heap.size w1 w') := fun w1 b => by
    have := parse_any ⟨#[49, 32, 119, 97, 105, 116]⟩ (by decide) w1 (he.below b)
    unfold parseR at this
    rw [show (⟨#[49, 32, 119, 97, 105, 116]⟩ : ByteArray).data.toList = [49, 32, 119, 97, 105, 116] from rfl, parse_wait1] at this
    exact this
  have H4 : Hid (∀ (t : ByteArray) w1, t = ⟨#[49, 32, 119, 97, 105, 116, 32, 48]⟩ ∨ t = ⟨#[48, 49, 32, 119, 97, 105, 116]⟩ ∨ t = ⟨#[49, 32, 98, 117, 109, 112, 32, 48]⟩ → Below w.heap.size w w1 → Calls Tryd.prog 7 #[.string t] w1 fun r w' => r = .returned (.tuple #[.agg #[.int .u8 0, .int .i64 0, .int .i64 0, .int .i64 0, .int .i64 0, .int .i64 0, .int .u8 0], .int .i64 4]) ∧ Below w1.heap.size w1 w') := fun t w1 ht b => by
    rcases ht with rfl | rfl | rfl
    · exact parse_refused _ (by decide) parse_x1 w1 (he.below b)
    · exact parse_refused _ (by decide) parse_x2 w1 (he.below b)
    · exact parse_refused _ (by decide) parse_x3 w1 (he.below b)
  clear he
  go_enter Tryd.func4, Tryd.ntmps4
  go_wp2_with fail
  refine (H1.out _ (Below.refl _ _)).mono ?_
  rintro _ w1 ⟨rfl, b1⟩
  have B1 := Lib.hid b1
  clear b1
  go_wp2_with fail
  refine (H2.out _ B1.out).mono ?_
  rintro _ w2 ⟨rfl, b2⟩
  have B2 := Lib.hid (B1.out.trans (b2.mono B1.out.size))
  clear b2 B1
  go_wp2_with fail
  refine (H3.out _ B2.out).mono ?_
  rintro _ w3 ⟨rfl, b3⟩
  have B3 := Lib.hid (B2.out.trans (b3.mono B2.out.size))
  clear b3 B2 H1 H2 H3
  go_wp2_with fail
  obtain ⟨W0, hW0⟩ : ∃ W0, W0 = (w3.alloc (.cells #[.int .u8 12, .int .i64 1, .int .i64 0, .int .i64 0, .int .i64 0, .int .i64 0, .int .u8 0] 23)).alloc (.cells #[.string ⟨#[49, 32, 119, 97, 105, 116, 32, 48]⟩, .string ⟨#[48, 49, 32, 119, 97, 105, 116]⟩, .string ⟨#[49, 32, 98, 117, 109, 112, 32, 48]⟩] 9) := ⟨_, rfl⟩
  obtain ⟨gs, hgs⟩ : ∃ gs, gs = w3.heap.size + 1 := ⟨_, rfl⟩
  have hr : W0.heap[gs]? = some (.cells #[.string ⟨#[49, 32, 119, 97, 105, 116, 32, 48]⟩, .string ⟨#[48, 49, 32, 119, 97, 105, 116]⟩, .string ⟨#[49, 32, 98, 117, 109, 112, 32, 48]⟩] 9 (0, 0)) := by rw [hW0, hgs]; exact heap_alloc2_new w3 _ _
  have hb : Below w.heap.size w W0 := by rw [hW0]; exact (B3.out.alloc B3.out.size _).alloc (by have := B3.out.size; simp; omega) _
  have HR := Lib.hid hr
  have HB := Lib.hid hb
  rw [← hW0, ← hgs]
  clear hW0 hgs hr hb B3
  go_loopw [50] (fun i wr => ∃ k : Nat, k ≤ 3 ∧ i = .int .i64 k ∧ Hid (Below W0.heap.size W0 wr)) (fun i _ => 3 - (intOf i).toNat)
  case atStart => exact ⟨0, by omega, rfl, Below.refl _ _⟩
  case round =>
    obtain ⟨k, hk, rfl, hB⟩ := hrel
    have HBr : Hid (Below w.heap.size w wr) := HB.out.trans (hB.out.mono HB.out.size)
    by_cases hlt : k < 3
    · have hrow := (hB.out.block gs (Array.getElem?_eq_some_iff.1 HR.out).1).trans HR.out
      obtain ⟨t, ht, hct⟩ : ∃ t : ByteArray, (t = ⟨#[49, 32, 119, 97, 105, 116, 32, 48]⟩ ∨ t = ⟨#[48, 49, 32, 119, 97, 105, 116]⟩ ∨ t = ⟨#[49, 32, 98, 117, 109, 112, 32, 48]⟩) ∧ wr.cell? ⟨gs, k, none⟩ = some (.string t) := by
        match k, hlt with
        | 0, _ => exact ⟨_, .inl rfl, (cell_of_row wr gs 0 _ _ _ hrow).trans rfl⟩
        | 1, _ => exact ⟨_, .inr (.inl rfl), (cell_of_row wr gs 1 _ _ _ hrow).trans rfl⟩
        | 2, _ => exact ⟨_, .inr (.inr rfl), (cell_of_row wr gs 2 _ _ _ hrow).trans rfl⟩
        | k + 3, h => exact absurd h (by omega)
      have HT := Lib.hid ht
      have i1 : (k : Int) < 3 := by omega
      have i2 : (0 : Int) ≤ (k : Int) := by omega
      clear hrow ht
      go_wp2_with fail
      refine (H4.out t _ HT.out HBr.out).mono ?_
      rintro _ w5 ⟨rfl, b5⟩
      have B5 : Hid (Below W0.heap.size W0 w5) := hB.out.trans (b5.mono hB.out.size)
      have B6 : Hid (Below W0.heap.size W0 (w5.alloc (.cells #[.int .u8 0, .int .i64 0, .int .i64 0, .int .i64 0, .int .i64 0, .int .i64 0, .int .u8 0] 23))) := B5.out.alloc B5.out.size _
      clear b5
      go_wp2_with fail
      go_roundw
      case rel => exact ⟨k + 1, by omega, by go_num, B6⟩
      case measure => simp [intOf]; omega
    · obtain rfl : k = 3 := by omega
      go_wp2_with fail
      go_ret
      exact ⟨rfl, HBr.out⟩
end Go.Proofs.YtfbnigikofidoaaDoor
