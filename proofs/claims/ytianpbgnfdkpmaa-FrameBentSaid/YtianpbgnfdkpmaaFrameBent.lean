/-
  FrameBent (P3.3, P3.4): a frame of which some bytes are other ones, all of them within four that stand one behind the other, behind its length, is refused: ErrSum; two texts, as long as one another, that are unlike within four bytes alone, have unlike sums: the statement holds for every input. Conditions: none beyond the statement's own (a body of at most 20000 bytes).
-/
import Derived.Test.YtianpbgnfdkpmaaFy
import Derived.Test.YtianpbgnfdkpmaaFw
import Derived.Test.YtianpbgnfdkpmaaLift
import Derived.Deep.DeepCutAuto
import Derived.Deep.CutBlock

namespace Go.Proofs.Ytianpbgnfdkpmaa
open Go.ChangeShapes Go.WideShapes Go.ChangeAt Go.RowKit Go.ChangeMaps
set_option linter.unusedVariables false

set_option maxRecDepth 100000 in
theorem bent_long (b : ByteArray) (y x : Int) (h : 20000 < b.size) (w : World) :
    Calls Try.prog 6 #[.string b, .int .i64 y, .int .u32 x] w fun e w' => e = .returned (.bool true) ∧ Below w.heap.size w w' := by
  go_enter Try.func6, Try.ntmps6
  go_wp2_with fail
  refine (works_any _).mono ?_
  rintro e w1 ⟨rfl, b1⟩
  go_wp2_with fail
  refine (works_any _).mono ?_
  rintro e w2 ⟨rfl, b2⟩
  go_wp2_with fail
  go_ret
  exact ⟨rfl, b1.trans (b2.mono b1.size)⟩

theorem u64_rng (y : Int) : 0 ≤ IntKind.u64.wrap y ∧ IntKind.u64.wrap y < 18446744073709551616 := by
  simp [IntKind.wrap, IntKind.bits, IntKind.signed]
  omega
/-- Where it is bent. -/
def spot (y : Int) (n : Nat) : Nat := (IntKind.u64.wrap y).toNat % n
theorem spot_lt (y : Int) (n : Nat) (h : 0 < n) : spot y n < n := Nat.mod_lt _ h
theorem spot_is (y : Int) (n : Nat) (h : 0 < n) (h2 : n ≤ 1000000) : wrap64 ((IntKind.u64.wrap y).tmod (n : Int)) = (spot y n : Nat) := by
  obtain ⟨h0, h1⟩ := u64_rng y
  have hl := spot_lt y n h
  unfold spot at hl ⊢
  obtain ⟨u, hu⟩ := Int.eq_ofNat_of_zero_le h0
  rw [hu] at hl ⊢
  rw [Int.tmod_eq_emod_of_nonneg (by omega)]
  simp only [Int.toNat_natCast] at hl ⊢
  rw [← Int.natCast_emod, IntWalk.wrap64_in _ ⟨by omega, by omega⟩]
theorem spot_head (y : Int) (a b d : Nat) (h : a = d + b + 4) (h2 : a ≤ 1000000) : wrap64 ((a : Int) - (b : Int) - 4 + wrap64 ((IntKind.u64.wrap y).tmod ((a : Int) - ((a : Int) - (b : Int) - 4)))) = ((d + spot y (b + 4) : Nat) : Int) := by
  have hl := spot_lt y (b + 4) (by omega)
  rw [show (a : Int) - ((a : Int) - (b : Int) - 4) = ((b + 4 : Nat) : Int) by omega, spot_is y (b + 4) (by omega) (by omega), IntWalk.wrap64_in _ ⟨by omega, by omega⟩]
  omega
theorem bent_int (s : ByteArray) (place : Int) (p x : Nat) (hp : place = p) (hs : s.size ≤ 16777216) (ha : p ≤ s.size) (hx : x < 4294967296) (w : World) :
    Calls Try.prog 17 #[.string s, .int .i64 place, .int .u32 x] w fun e w' => e = .returned (.string (bentS s p x)) ∧ Below w.heap.size w w' := by
  rw [hp]
  exact bent_any s p x hs ha hx w
theorem no_int (s : ByteArray) (place : Int) (p e : Nat) (hp : place = p) (h : UnwIs s ⟨#[]⟩ p e) (w : World) :
    Calls Try.prog 11 #[.string s, .int .i64 place, .int .i64 e] w fun e w' => e = .returned (.bool true) ∧ Below w.heap.size w w' := by
  rw [hp]
  exact no_yes s p e h w
/-- What stands behind the frame: a body without bytes; a piece of the body that is the same, or unlike. -/
def Tail (b : ByteArray) (y : Int) (x : Nat) : Prop := b.size = 0 ∨ (0 < b.size ∧ bentS b (spot y b.size) x = b) ∨ (0 < b.size ∧ bentS b (spot y b.size) x ≠ b ∧ Fm.sum (nats (bentS b (spot y b.size) x)) ≠ Fm.sum (nats b))
theorem tail_any (b : ByteArray) (y : Int) (x : Nat) : Tail b y x := by
  unfold Tail
  by_cases h0 : b.size = 0
  · exact .inl h0
  · by_cases h1 : bentS b (spot y b.size) x = b
    · exact .inr (.inl ⟨by omega, h1⟩)
    · refine .inr (.inr ⟨by omega, h1, fun he => h1 (sum_bent b _ x ?_ he)⟩)
      have := spot_lt y b.size (by omega)
      omega

set_option maxRecDepth 100000 in
theorem bent_short (b : ByteArray) (y : Int) (x : Nat) (hx : x < 4294967296) (h1 : b.size ≤ 20000) (w : World) :
    Calls Try.prog 6 #[.string b, .int .i64 y, .int .u32 x] w fun e w' => e = .returned (.bool true) ∧ Below w.heap.size w w' := by
  have hz := numS_le b.size
  have hf := frame_size b
  have HW := Lib.hid (wrap_any b (by omega))
  have hF : (frameS b).size ≤ 20100 := by omega
  obtain ⟨a, ha⟩ : ∃ a, a = frameS b := ⟨_, rfl⟩
  rw [← ha] at HW hF hf
  obtain ⟨d, hd⟩ : ∃ d, d = (numS b.size).size := ⟨_, rfl⟩
  rw [← hd] at hf hz
  have HA := Lib.hid ha
  have HD := Lib.hid hd
  have HF := Lib.hid hf
  have k1 : d + b.size + 4 ≤ a.size := by omega
  have k2 : a.size ≤ d + b.size + 4 := by omega
  clear ha hd hf
  go_enter Try.func6, Try.ntmps6
  go_wp2_with fail
  refine (works_any _).mono ?_
  rintro e w1 ⟨rfl, b1⟩
  go_wp2_with fail
  refine (HW.out _).mono ?_
  rintro e w2 ⟨rfl, b2⟩
  go_wp2_with fail
  have hsp := spot_lt y (b.size + 4) (by omega)
  refine (bent_int a _ (d + spot y (b.size + 4)) x (spot_head y a.size b.size d HF.out (by omega)) (by omega) (by omega) hx w2).mono ?_
  rintro e w3 ⟨rfl, b3⟩
  have c2 := b1.trans (b2.mono b1.size)
  have c3 := c2.trans (b3.mono c2.size)
  have HT := Lib.hid (tail_any b y x)
  have HB : Hid (bentS a (d + spot y (b.size + 4)) x ≠ a → UnwIs (bentS a (d + spot y (b.size + 4)) x) ⟨#[]⟩ (a.size - 4) 9) := by
    show _ → _
    rw [HD.out, HA.out]
    exact frame_bent b _ x (by rw [← HA.out]; omega) (by omega)
  obtain ⟨t, ht⟩ : ∃ t, t = bentS a (d + spot y (b.size + 4)) x := ⟨_, rfl⟩
  rw [← ht] at HB ⊢
  clear ht b1 b2 b3 c2 HA HD HF HW hsp
  by_cases he : t = a
  · subst he
    clear HB
    rcases HT.out with h0 | ⟨h0, hv⟩ | ⟨h0, hv, hs⟩
    · have f0 : ((b.size : Int) == 0) = true := beq_iff_eq.2 (by omega)
      clear HT h0
      go_wp2_with fail
      go_ret
      exact ⟨rfl, c3⟩
    · have f0 : ((b.size : Int) == 0) = false := beq_eq_false_iff_ne.2 (by omega)
      have f3 : (1 : Int) ≤ (b.size : Int) := by omega
      have hv2 := Lib.hid hv
      clear HT hv
      go_wp2_with fail
      refine (bent_int b _ (spot y b.size) x (spot_is y b.size h0 (by omega)) (by omega) (by have := spot_lt y b.size h0; omega) hx _).mono ?_
      rintro e w5 ⟨rfl, b5⟩
      rw [hv2.out]
      have c5 := c3.trans (b5.mono c3.size)
      clear b5
      go_wp2_with fail
      refine (Sum_any b (by omega) _).mono ?_
      rintro e w6 ⟨rfl, b6⟩
      go_wp2_with fail
      refine (Sum_any b (by omega) _).mono ?_
      rintro e w7 ⟨rfl, b7⟩
      have c6 := c5.trans (b6.mono c5.size)
      have c7 := c6.trans (b7.mono c6.size)
      go_wp2_with fail
      go_ret
      exact ⟨ret_bool (by simp), c7⟩
    · have f0 : ((b.size : Int) == 0) = false := beq_eq_false_iff_ne.2 (by omega)
      have f3 : (1 : Int) ≤ (b.size : Int) := by omega
      obtain ⟨u, hu⟩ : ∃ u, u = bentS b (spot y b.size) x := ⟨_, rfl⟩
      have hz2 := bentS_size b (spot y b.size) x
      rw [← hu] at hv hs hz2
      obtain ⟨su, hsu⟩ : ∃ su, su = Fm.sum (nats u) := ⟨_, rfl⟩
      obtain ⟨sb, hsb⟩ : ∃ sb, sb = Fm.sum (nats b) := ⟨_, rfl⟩
      have HSU := Lib.hid (Sum_any u (by omega))
      have HSB := Lib.hid (Sum_any b (by omega))
      rw [← hsu] at hs HSU
      rw [← hsb] at hs HSB
      have f4 : (u.toList == b.toList) = false := by rw [test_bytes]; exact decide_eq_false fun h => hv (bytes_inj h)
      have f5 : ((su : Int) == (sb : Int)) = false := by simp; omega
      have HU2 := Lib.hid hu
      clear HT hv hs hsu hsb hu hz2
      go_wp2_with fail
      refine (bent_int b _ (spot y b.size) x (spot_is y b.size h0 (by omega)) (by omega) (by have := spot_lt y b.size h0; omega) hx _).mono ?_
      rintro e w5 ⟨rfl, b5⟩
      rw [← HU2.out]
      have c5 := c3.trans (b5.mono c3.size)
      clear b5
      go_wp2_with fail
      refine (HSU.out _).mono ?_
      rintro e w6 ⟨rfl, b6⟩
      go_wp2_with fail
      refine (HSB.out _).mono ?_
      rintro e w7 ⟨rfl, b7⟩
      have c6 := c5.trans (b6.mono c5.size)
      have c7 := c6.trans (b7.mono c6.size)
      go_wp2_with fail
      go_ret
      exact ⟨ret_bool (by first | rfl | simp), c7⟩
  · have hu := Lib.hid (HB.out he)
    have f1 : (t.toList == a.toList) = false := by rw [test_bytes]; exact decide_eq_false fun h => he (bytes_inj h)
    have f2 : (!(t.toList == a.toList)) = true := by rw [f1]; rfl
    clear HB he
    go_wp2_with fail
    refine (no_int t _ (a.size - 4) 9 (by omega) hu.out _).mono ?_
    rintro e w4 ⟨rfl, b4⟩
    have c4 := c3.trans (b4.mono c3.size)
    clear b4 c3 f1 f2 hu
    rcases HT.out with h0 | ⟨h0, hv⟩ | ⟨h0, hv, hs⟩
    · have f0 : ((b.size : Int) == 0) = true := beq_iff_eq.2 (by omega)
      clear HT h0
      go_wp2_with fail
      go_ret
      exact ⟨rfl, c4⟩
    · have f0 : ((b.size : Int) == 0) = false := beq_eq_false_iff_ne.2 (by omega)
      have f3 : (1 : Int) ≤ (b.size : Int) := by omega
      have hv2 := Lib.hid hv
      clear HT hv
      go_wp2_with fail
      refine (bent_int b _ (spot y b.size) x (spot_is y b.size h0 (by omega)) (by omega) (by have := spot_lt y b.size h0; omega) hx _).mono ?_
      rintro e w5 ⟨rfl, b5⟩
      rw [hv2.out]
      have c5 := c4.trans (b5.mono c4.size)
      clear b5
      go_wp2_with fail
      refine (Sum_any b (by omega) _).mono ?_
      rintro e w6 ⟨rfl, b6⟩
      go_wp2_with fail
      refine (Sum_any b (by omega) _).mono ?_
      rintro e w7 ⟨rfl, b7⟩
      have c6 := c5.trans (b6.mono c5.size)
      have c7 := c6.trans (b7.mono c6.size)
      go_wp2_with fail
      go_ret
      exact ⟨ret_bool (by simp), c7⟩
    · have f0 : ((b.size : Int) == 0) = false := beq_eq_false_iff_ne.2 (by omega)
      have f3 : (1 : Int) ≤ (b.size : Int) := by omega
      obtain ⟨u, hu⟩ : ∃ u, u = bentS b (spot y b.size) x := ⟨_, rfl⟩
      have hz2 := bentS_size b (spot y b.size) x
      rw [← hu] at hv hs hz2
      obtain ⟨su, hsu⟩ : ∃ su, su = Fm.sum (nats u) := ⟨_, rfl⟩
      obtain ⟨sb, hsb⟩ : ∃ sb, sb = Fm.sum (nats b) := ⟨_, rfl⟩
      have HSU := Lib.hid (Sum_any u (by omega))
      have HSB := Lib.hid (Sum_any b (by omega))
      rw [← hsu] at hs HSU
      rw [← hsb] at hs HSB
      have f4 : (u.toList == b.toList) = false := by rw [test_bytes]; exact decide_eq_false fun h => hv (bytes_inj h)
      have f5 : ((su : Int) == (sb : Int)) = false := by simp; omega
      have HU2 := Lib.hid hu
      clear HT hv hs hsu hsb hu hz2
      go_wp2_with fail
      refine (bent_int b _ (spot y b.size) x (spot_is y b.size h0 (by omega)) (by omega) (by have := spot_lt y b.size h0; omega) hx _).mono ?_
      rintro e w5 ⟨rfl, b5⟩
      rw [← HU2.out]
      have c5 := c4.trans (b5.mono c4.size)
      clear b5
      go_wp2_with fail
      refine (HSU.out _).mono ?_
      rintro e w6 ⟨rfl, b6⟩
      go_wp2_with fail
      refine (HSB.out _).mono ?_
      rintro e w7 ⟨rfl, b7⟩
      have c6 := c5.trans (b6.mono c5.size)
      have c7 := c6.trans (b7.mono c6.size)
      go_wp2_with fail
      go_ret
      exact ⟨ret_bool (by first | rfl | simp), c7⟩

theorem FrameBent_walk (b : ByteArray) (y x : Int) (h1 : b.size ≤ maxLen) (wy : (Lit.int .i64 y).wf = true) (wx : (Lit.int .u32 x).wf = true) (w : World) :
    Calls Try.prog 6 #[.string b, .int .i64 y, .int .u32 x] w fun e w' => e = .returned (.bool true) ∧ Below w.heap.size w w' := by
  have hx : 0 ≤ x ∧ x ≤ 4294967295 := by simpa [Lit.wf, IntKind.min, IntKind.max, IntKind.signed, IntKind.bits] using wx
  by_cases h : 20000 < b.size
  · exact bent_long b y x h w
  · obtain ⟨n, rfl⟩ := Int.eq_ofNat_of_zero_le hx.1
    exact bent_short b y n (by omega) (by omega) w

set_option maxRecDepth 100000 in
theorem FrameBent_lifted (os : Os) (started : os.Started) (H : Type) (enc : TypeId × Value → H) :
    ReturnsInHanded {} Try.checked os 6 .any (Rows.frameBentSpec.pre6 enc Try.prog Try.f6 Rows.frameBentRow.domain false) (Rows.frameBentSpec.post enc Try.prog Try.f6 false true false false) := by
  refine returnsInHanded_of_change (C := Try.checked) lift_own started (by kernel_rfl) Try.func6
    (ChangeSpec.witness6 (enc := enc) (C := Try.checked) false ⟨#[], #[.string ⟨#[]⟩, .int .i64 0, .int .u32 0], []⟩ 8 (by kernel_rfl) (by kernel_rfl) (by kernel_rfl) (by kernel_rfl)) ?_
  intro W base args ds gs before hval0 hW hcnd _
  have hval : ∀ (j : Nat) t v, Try.f6.params[j]? = some t → args[j]? = some v → Value.okWide Try.prog W .any base t v := hval0
  have hW' := hW
  obtain ⟨p, q, hA0, hV, rfl, hfz, hnd⟩ := hW
  have hA : DataW.TrodAll enc Try.prog W 0 (fun _ => true) true Try.f6.params.toList args.toList ds p := hA0
  rw [Try.params6] at hA hval
  obtain ⟨v0, vs0, d0, ds0, p0, q0, hargs, rfl, rfl, h0, r0⟩ := trodAll_cons hA
  obtain ⟨v1, vs1, d1, ds1, p1, q1, rfl, rfl, rfl, h1, r1⟩ := trodAll_cons r0
  obtain ⟨v2, vs2, d2, ds2, p2, q2, rfl, rfl, rfl, h2, r2⟩ := trodAll_cons r1
  obtain ⟨rfl, rfl, rfl⟩ := trodAll_nil r2
  obtain rfl : args = #[v0, v1, v2] := by cases args; simp_all
  obtain ⟨rfl, rfl⟩ := trodVars_none hV
  obtain ⟨a0, rfl, rfl, rfl, w0⟩ := open_string Try.underlying9 (hval 0 9 v0 rfl rfl) h0
  obtain ⟨a1, rfl, rfl, rfl, w1⟩ := open_int Try.underlying3 (hval 1 3 v1 rfl rfl) h1
  obtain ⟨a2, rfl, rfl, rfl, w2⟩ := open_int Try.underlying29 (hval 2 29 v2 rfl rfl) h2
  clear hA0 hval0
  simp only [List.append_nil] at hW'
  refine (FrameBent_walk a0 a1 a2 w0 w1 w2 W).mono fun e W' ⟨he, hg⟩ => ?_
  subst he
  exact ⟨_, rfl, lift_post (pa := []) (pv := []) hW' (fun _ _ _ => (trodAll_cons_mk (shut_bool Try.underlying4 _) trodAll_mk0)) (fun sp _ => (trodAll_cons_mk (shut_string Try.underlying9 w0) (trodAll_cons_mk (shut_int Try.underlying3 w1) (trodAll_cons_mk (shut_int Try.underlying29 w2) trodAll_mk0)))) (fun _ _ => rfl) rfl
    hg (ok_one (by kernel_rfl) rfl (okWide_bool_mk Try.underlying4 _))⟩

/-- THE STATEMENT of FrameBent: for every input the call returns true, and each argument reads behind it as before. -/
theorem FrameBent_holds : Rows.FrameBentSaid :=
  OpenClaim.holds_of_wide 6 Try.f6 rfl rfl rfl rfl rfl rfl rfl ⟨rfl, rfl, rfl, rfl, rfl⟩ rfl rfl rfl rfl rfl (by kernel_rfl) Try.func6 (by kernel_rfl)
    (of_decide_eq_true (by kernel_rfl)) (by unfold Func.isWrapper; first | (rw [if_pos (by decide +kernel)]; kernel_rfl) | (rw [if_neg (by decide +kernel)]; exact ⟨rfl, rfl⟩))
    (fun os started H enc _ => FrameBent_lifted os started H enc)
end Go.Proofs.Ytianpbgnfdkpmaa
