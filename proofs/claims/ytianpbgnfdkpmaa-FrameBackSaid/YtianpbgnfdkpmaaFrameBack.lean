/-
  FrameBack (P3.2, P3.5): Unwrap of Wrap is the body; what Unwrap told, wrapped anew, are the bytes; a frame without its last byte is refused; one with a byte more is refused: ErrLong: the statement holds for every input. Conditions: none beyond the statement's own (texts of at most 20000 bytes).
-/
import Derived.Test.YtianpbgnfdkpmaaFp
import Derived.Test.YtianpbgnfdkpmaaFw
import Derived.Test.YtianpbgnfdkpmaaLift
namespace Go.Proofs.Ytianpbgnfdkpmaa
open Go.ChangeShapes Go.WideShapes Go.ChangeAt Go.RowKit Go.ChangeMaps
set_option linter.unusedVariables false

set_option maxRecDepth 100000 in
theorem back_long (b s : ByteArray) (x : Int) (h : 20000 < b.size ∨ 20000 < s.size) (w : World) :
    Calls Try.prog 5 #[.string b, .string s, .int .u8 x] w fun e w' => e = .returned (.bool true) ∧ Below w.heap.size w w' := by
  rcases (by omega : 20000 < b.size ∨ (b.size ≤ 20000 ∧ 20000 < s.size)) with h1 | ⟨h1, h2⟩
  all_goals
    clear h
    go_enter Try.func5, Try.ntmps5
    go_wp2_with fail
    refine (works_any _).mono ?_
    rintro e w1 ⟨rfl, b1⟩
    go_wp2_with fail
    refine (works_any _).mono ?_
    rintro e w2 ⟨rfl, b2⟩
    go_wp2_with fail
    go_ret
    exact ⟨rfl, b1.trans (b2.mono b1.size)⟩

theorem no_int (s : ByteArray) (place : Int) (p e : Nat) (hp : place = p) (h : UnwIs s ⟨#[]⟩ p e) (w : World) :
    Calls Try.prog 11 #[.string s, .int .i64 place, .int .i64 e] w fun e w' => e = .returned (.bool true) ∧ Below w.heap.size w w' := by
  rw [hp]
  exact no_yes s p e h w

set_option maxRecDepth 100000 in
theorem back_short (b s : ByteArray) (x : Nat) (hx : x < 256) (h1 : b.size ≤ 20000) (h2 : s.size ≤ 20000) (w : World) (t : ByteArray) (place er : Nat) (HU : Hid (UnwIs s t place er)) (HT : Hid (Told s t place er)) :
    Calls Try.prog 5 #[.string b, .string s, .int .u8 x] w fun e w' => e = .returned (.bool true) ∧ Below w.heap.size w w' := by
  have hz := numS_le b.size
  have hf := frame_size b
  have HW := Lib.hid (wrap_any b (by omega))
  have HB := Lib.hid (back_yes b (by omega))
  have HC := Lib.hid (fun t ht => frame_cut b t (by omega) ht)
  have HM := Lib.hid (fun t ht => frame_more b t (UInt8.ofNat x) (by omega) ht)
  have hF : (frameS b).size ≤ 20100 := by omega
  have hF0 : 1 ≤ (frameS b).size := by omega
  clear hf hz
  obtain ⟨a, ha⟩ : ∃ a, a = frameS b := ⟨_, rfl⟩
  rw [← ha] at HW HC HM hF hF0
  clear ha
  have g1 : (0 : Int) ≤ (a.size : Int) - 1 := by omega
  have g2 : (a.size : Int) - 1 ≤ (a.size : Int) := by omega
  have hcv := fun (W : World) => conv_one ⟨W.heap.size, 0, none⟩ x hx (W.alloc (.cells #[.int .u8 x] 5)) (by rw [cell_new]; rfl)
  go_enter Try.func5, Try.ntmps5
  go_wp2_with fail
  refine (works_any _).mono ?_
  rintro e w1 ⟨rfl, b1⟩
  go_wp2_with fail
  refine (HW.out _).mono ?_
  rintro e w2 ⟨rfl, b2⟩
  go_wp2_with fail
  refine (HB.out _).mono ?_
  rintro e w3 ⟨rfl, b3⟩
  go_wp2_with fail
  refine (no_int _ _ (a.size - 1) 8 (by omega) (by
    have e := HC.out (a.extract 0 (a.size - 1)) (by rw [bytes_extract, List.drop_zero, List.dropLast_eq_take, bytes_length])
    rw [ByteArray.size_extract, show min (a.size - 1) a.size - 0 = a.size - 1 by omega] at e
    exact e) _).mono ?_
  rintro e w4 ⟨rfl, b4⟩
  go_wp2_with fail
  refine (no_int _ _ a.size 10 rfl (HM.out _ (by rw [bytes_append]; rfl)) _).mono ?_
  rintro e w5 ⟨rfl, b5⟩
  have c2 := b1.trans (b2.mono b1.size)
  have c3 := c2.trans (b3.mono c2.size)
  have c4 := c3.trans (b4.mono c3.size)
  have c5 := c4.trans ((below_new b5).mono c4.size)
  clear b1 b2 b3 b4 b5 c2 c3 c4 hcv g1 g2 HC HM HB HW hF hF0
  go_wp2_with fail
  refine (HU.out _).mono ?_
  rintro e w6 ⟨rfl, b6⟩
  have c6 := c5.trans (b6.mono c5.size)
  clear b6 c5 HU
  rcases HT.out with ⟨he, rfl, hp⟩ | ⟨rfl, rfl, hs⟩
  · have hb : ((er : Int) != 0) = true := by simp; omega
    have p1 : (0 : Int) ≤ (place : Int) := by omega
    have p2 : (place : Int) ≤ (s.size : Int) := by omega
    have p3 : decide (place ≤ s.size) = true := decide_eq_true hp
    clear HT he
    go_wp2_with fail
    go_ret
    exact ⟨ret_bool (by simp), c6⟩
  · have hz := frame_size t
    rw [hs] at hz
    have HW := Lib.hid (wrap_any t (by omega))
    rw [hs] at HW
    clear HT hs hz
    go_wp2_with fail
    refine (HW.out _).mono ?_
    rintro e w7 ⟨rfl, b7⟩
    go_wp2_with fail
    go_ret
    exact ⟨ret_bool (by simp), c6.trans (b7.mono c6.size)⟩

theorem FrameBack_walk (b s : ByteArray) (x : Int) (h1 : b.size ≤ maxLen) (h2 : s.size ≤ maxLen) (wx : (Lit.int .u8 x).wf = true) (w : World) :
    Calls Try.prog 5 #[.string b, .string s, .int .u8 x] w fun e w' => e = .returned (.bool true) ∧ Below w.heap.size w w' := by
  have hx : 0 ≤ x ∧ x ≤ 255 := by simpa [Lit.wf, IntKind.min, IntKind.max, IntKind.signed, IntKind.bits] using wx
  by_cases h : 20000 < b.size ∨ 20000 < s.size
  · exact back_long b s x h w
  · obtain ⟨n, rfl⟩ := Int.eq_ofNat_of_zero_le hx.1
    obtain ⟨t, place, er, hu, -, ht⟩ := told_any s (by omega)
    exact back_short b s n (by omega) (by omega) (by omega) w t place er hu ht

set_option maxRecDepth 100000 in
theorem FrameBack_lifted (os : Os) (started : os.Started) (H : Type) (enc : TypeId × Value → H) :
    ReturnsInHanded {} Try.checked os 5 .any (Rows.frameBackSpec.pre6 enc Try.prog Try.f5 Rows.frameBackRow.domain false) (Rows.frameBackSpec.post enc Try.prog Try.f5 false true false false) := by
  refine returnsInHanded_of_change (C := Try.checked) lift_own started (by kernel_rfl) Try.func5
    (ChangeSpec.witness6 (enc := enc) (C := Try.checked) false ⟨#[], #[.string ⟨#[]⟩, .string ⟨#[]⟩, .int .u8 0], []⟩ 8 (by kernel_rfl) (by kernel_rfl) (by kernel_rfl) (by kernel_rfl)) ?_
  intro W base args ds gs before hval0 hW hcnd _
  have hval : ∀ (j : Nat) t v, Try.f5.params[j]? = some t → args[j]? = some v → Value.okWide Try.prog W .any base t v := hval0
  have hW' := hW
  obtain ⟨p, q, hA0, hV, rfl, hfz, hnd⟩ := hW
  have hA : DataW.TrodAll enc Try.prog W 0 (fun _ => true) true Try.f5.params.toList args.toList ds p := hA0
  rw [Try.params5] at hA hval
  obtain ⟨v0, vs0, d0, ds0, p0, q0, hargs, rfl, rfl, h0, r0⟩ := trodAll_cons hA
  obtain ⟨v1, vs1, d1, ds1, p1, q1, rfl, rfl, rfl, h1, r1⟩ := trodAll_cons r0
  obtain ⟨v2, vs2, d2, ds2, p2, q2, rfl, rfl, rfl, h2, r2⟩ := trodAll_cons r1
  obtain ⟨rfl, rfl, rfl⟩ := trodAll_nil r2
  obtain rfl : args = #[v0, v1, v2] := by cases args; simp_all
  obtain ⟨rfl, rfl⟩ := trodVars_none hV
  obtain ⟨a0, rfl, rfl, rfl, w0⟩ := open_string Try.underlying9 (hval 0 9 v0 rfl rfl) h0
  obtain ⟨a1, rfl, rfl, rfl, w1⟩ := open_string Try.underlying9 (hval 1 9 v1 rfl rfl) h1
  obtain ⟨a2, rfl, rfl, rfl, w2⟩ := open_int Try.underlying5 (hval 2 5 v2 rfl rfl) h2
  clear hA0 hval0
  simp only [List.append_nil] at hW'
  refine (FrameBack_walk a0 a1 a2 w0 w1 w2 W).mono fun e W' ⟨he, hg⟩ => ?_
  subst he
  exact ⟨_, rfl, lift_post (pa := []) (pv := []) hW' (fun _ _ _ => (trodAll_cons_mk (shut_bool Try.underlying4 _) trodAll_mk0)) (fun sp _ => (trodAll_cons_mk (shut_string Try.underlying9 w0) (trodAll_cons_mk (shut_string Try.underlying9 w1) (trodAll_cons_mk (shut_int Try.underlying5 w2) trodAll_mk0)))) (fun _ _ => rfl) rfl
    hg (ok_one (by kernel_rfl) rfl (okWide_bool_mk Try.underlying4 _))⟩

/-- THE STATEMENT of FrameBack: for every input the call returns true, and each argument reads behind it as before. -/
theorem FrameBack_holds : Rows.FrameBackSaid :=
  OpenClaim.holds_of_wide 5 Try.f5 rfl rfl rfl rfl rfl rfl rfl ⟨rfl, rfl, rfl, rfl, rfl⟩ rfl rfl rfl rfl rfl (by kernel_rfl) Try.func5 (by kernel_rfl)
    (of_decide_eq_true (by kernel_rfl)) (by unfold Func.isWrapper; first | (rw [if_pos (by decide +kernel)]; kernel_rfl) | (rw [if_neg (by decide +kernel)]; exact ⟨rfl, rfl⟩))
    (fun os started H enc _ => FrameBack_lifted os started H enc)
end Go.Proofs.Ytianpbgnfdkpmaa
