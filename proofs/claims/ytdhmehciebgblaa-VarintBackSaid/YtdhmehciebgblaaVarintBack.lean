/-
  VarintBack (P1.3, P1.5): Get of Put, with whatever behind it, is the number, and how many bytes; what Get told, put anew, are the bytes that were gone over; without its last byte a number is ErrShort: the statement holds for every input. Conditions: none beyond the statement's own (texts of at most 1000 bytes).
-/
import Derived.Test.YtdhmehciebgblaaVw
import Derived.Test.YtdhmehciebgblaaLift
import Derived.Lib.Strings
import Derived.Deep.RegionHeld3
namespace Go.Proofs.Ytdhmehciebgblaa
open Go.ChangeShapes Go.WideShapes Go.ChangeAt Go.RowKit Go.ChangeMaps
set_option linter.unusedVariables false
theorem get_is (s : ByteArray) (n size e : Nat) (hs : s.size ≤ 9223372036854775807) (h : Vm.get (bytes s) = (n, size, e)) (w : World) :
    Calls Try.prog 14 #[.string s] w fun r w' => r = .returned (.tuple #[.int .u64 n, .int .i64 size, .int .i64 e]) ∧ w = w' := by
  have := get_any s hs w
  rw [h] at this
  exact this

set_option maxRecDepth 100000 in
theorem back_long (n : Int) (beh s : ByteArray) (h1 : beh.size ≤ maxLen) (h2 : s.size ≤ maxLen) (h : 1000 < beh.size ∨ 1000 < s.size) (w : World) :
    Calls Try.prog 5 #[.int .u64 n, .string beh, .string s] w fun e w' => e = .returned (.bool true) ∧ Below w.heap.size w w' := by
  unfold maxLen at h1 h2
  rcases h with h | h
  all_goals
    go_enter Try.func5, Try.ntmps5
    go_wp2_with fail
    refine (works_any _).mono ?_
    rintro e w1 ⟨rfl, b1⟩
    go_wp2_with (refine (works_any _).mono ?_; rintro e w2 ⟨rfl, b2⟩)
    all_goals go_ret
    all_goals exact ⟨rfl, b1.trans (b2.mono b1.size)⟩

theorem back_get (n : Nat) (hn : n < 18446744073709551616) (beh : ByteArray) (h1 : beh.size ≤ 1000) (w : World) :
    Calls Try.prog 11 #[.string (putS n ++ beh), .int .u64 n, .int .i64 (putS n).size, .int .i64 0] w fun e w' => e = .returned (.bool true) ∧ w = w' := by
  have hl := Vm.put_len n
  have e : Vm.get (bytes (putS n ++ beh)) = (n, (Vm.put n).length, 0) := by
    have : bytes (putS n ++ beh) = Vm.put n ++ beh.data.toList := by simp [bytes, putS, ByteArray.data_append]
    rw [this, Vm.get_put' n hn]
  exact gets_yes _ _ _ _ (by rw [ByteArray.size_append, putS_size]; omega) (by rw [e, putS_size]; exact ⟨rfl, rfl, rfl⟩) w
theorem back_cut (n : Nat) (hn : n < 18446744073709551616) (t : ByteArray) (ht : t.data.toList = (Vm.put n).dropLast) (w : World) :
    Calls Try.prog 11 #[.string t, .int .u64 0, .int .i64 0, .int .i64 8] w fun e w' => e = .returned (.bool true) ∧ w = w' := by
  have hl := Vm.put_len n
  have e : Vm.get (bytes t) = (0, 0, 8) := by
    rw [bytes, ht]
    exact Vm.get_short 10 n 0 0 (Vm.lt_pow10 hn) (by omega) (by simpa using hn)
  exact gets_yes _ _ _ _ (by rw [Lib.size_eq, ht, List.length_dropLast]; omega) (by rw [e]; exact ⟨rfl, rfl, rfl⟩) w

set_option maxRecDepth 100000 in
theorem back_short (n : Nat) (hn : n < 18446744073709551616) (beh s : ByteArray) (h1 : beh.size ≤ 1000) (h2 : s.size ≤ 1000) (w : World) (m size er : Nat) (hg : Hid (Vm.get (bytes s) = (m, size, er)))
    (hsh : Hid ((m = 0 ∧ size = 0 ∧ er = 8) ∨ (m = 0 ∧ size = 0 ∧ er = 20) ∨ (m = 0 ∧ size = 0 ∧ er = 11) ∨ (er = 0 ∧ 1 ≤ size ∧ size ≤ s.size ∧ m < 18446744073709551616 ∧ Vm.put m = (bytes s).take size))) :
    Calls Try.prog 5 #[.int .u64 n, .string beh, .string s] w fun e w' => e = .returned (.bool true) ∧ Below w.heap.size w w' := by
  have hl := Vm.put_len n
  have hz := putS_size n
  obtain ⟨hl1, hl2⟩ := hl
  have hz1 : 1 ≤ (putS n).size := by omega
  have hz2 : (putS n).size ≤ 10 := by omega
  clear hz
  go_enter Try.func5, Try.ntmps5
  go_wp2_with fail
  refine (works_any _).mono ?_
  rintro e w1 ⟨rfl, b1⟩
  go_wp2_with fail
  refine (put_s n hn _).mono ?_
  rintro e w2 ⟨rfl, b2⟩
  go_wp2_with fail
  refine (back_get n hn beh h1 _).mono ?_
  rintro e w' ⟨rfl, rfl⟩
  go_wp2_with fail
  refine (back_cut n hn _ (by rw [Lib.extract_data, putS_size]; simp [putS, List.dropLast_eq_take]) _).mono ?_
  rintro e w' ⟨rfl, rfl⟩
  go_wp2_with fail
  have b12 := b1.trans (b2.mono b1.size)
  refine (get_is s m size er (by omega) hg.out _).mono ?_
  rintro e w' ⟨rfl, rfl⟩
  rcases hsh.out with ⟨rfl, rfl, rfl⟩ | ⟨rfl, rfl, rfl⟩ | ⟨rfl, rfl, rfl⟩ | ⟨rfl, q1, q2, q3, q4⟩
  · go_wp2_with fail
    go_ret
    exact ⟨rfl, b12⟩
  · go_wp2_with fail
    go_ret
    exact ⟨rfl, b12⟩
  · go_wp2_with fail
    go_ret
    exact ⟨rfl, b12⟩
  · have Q4 : Hid (Vm.put m = (bytes s).take size) := q4
    clear q4
    go_wp2_with fail
    clear hsh hg hz1 hz2 hl1 hl2
    have g1 : (1 : Int) ≤ (size : Int) := by omega
    have g2 : decide ((1 : Int) ≤ (size : Int)) = true := by simp; omega
    have g3 : decide (size ≤ s.size) = true := by simpa using q2
    have g4 : decide ((size : Int) ≤ (s.size : Int)) = true := by simpa using q2
    go_region_held3 (fun w' => Below w.heap.size w w') (first | exact b12.drew | assumption | exact Below.trans (by assumption) (Below.mono b3 (Below.size (by assumption)))) (first | (go_at_call 10; refine (put_s m q3 _).mono ?_; rintro e w3 ⟨rfl, b3⟩))
    go_wp2_with fail
    go_ret
    refine ⟨ret_bool ?_, by assumption⟩
    show ((putS m).toList == (s.extract 0 size).toList) = true
    rw [putS_list, ByteArray.toList_eq, Lib.extract_data, Q4.out, bytes]
    simp

theorem VarintBack_walk (x : Int) (beh s : ByteArray) (wx : (Lit.int .u64 x).wf = true) (h1 : beh.size ≤ maxLen) (h2 : s.size ≤ maxLen) (w : World) :
    Calls Try.prog 5 #[.int .u64 x, .string beh, .string s] w fun e w' => e = .returned (.bool true) ∧ Below w.heap.size w w' := by
  have hx : 0 ≤ x ∧ x ≤ 18446744073709551615 := by simpa [Lit.wf, IntKind.min, IntKind.max, IntKind.signed, IntKind.bits] using wx
  by_cases hb : 1000 < beh.size ∨ 1000 < s.size
  · exact back_long x beh s h1 h2 hb w
  · obtain ⟨n, rfl⟩ := Int.eq_ofNat_of_zero_le hx.1
    rcases Vm.get_shape (bytes s) 0 0 (by omega) with (e | e | e) | ⟨m, size, e, s1, s2, s3, s4, s5, s6⟩
    · exact back_short n (by omega) beh s (by omega) (by omega) w 0 0 8 e (Or.inl ⟨rfl, rfl, rfl⟩)
    · exact back_short n (by omega) beh s (by omega) (by omega) w 0 0 20 e (Or.inr (Or.inl ⟨rfl, rfl, rfl⟩))
    · exact back_short n (by omega) beh s (by omega) (by omega) w 0 0 11 e (Or.inr (Or.inr (Or.inl ⟨rfl, rfl, rfl⟩)))
    · have e' : Vm.get (bytes s) = (m, size, 0) := by rw [Vm.get, e]; simp
      exact back_short n (by omega) beh s (by omega) (by omega) w m size 0 e' (Or.inr (Or.inr (Or.inr ⟨rfl, s1, by rw [Lib.size_eq]; exact s2, by simpa using s5, s6 10 (by omega)⟩)))

set_option maxRecDepth 100000 in
theorem VarintBack_lifted (os : Os) (started : os.Started) (H : Type) (enc : TypeId × Value → H) :
    ReturnsInHanded {} Try.checked os 5 .any (Rows.varintBackSpec.pre6 enc Try.prog Try.f5 Rows.varintBackRow.domain false) (Rows.varintBackSpec.post enc Try.prog Try.f5 false true false false) := by
  refine returnsInHanded_of_change (C := Try.checked) lift_own started (by kernel_rfl) Try.func5
    (ChangeSpec.witness6 (enc := enc) (C := Try.checked) false ⟨#[], #[.int .u64 0, .string ⟨#[]⟩, .string ⟨#[]⟩], []⟩ 8 (by kernel_rfl) (by kernel_rfl) (by kernel_rfl) (by kernel_rfl)) ?_
  intro W base args ds gs before hval0 hW hcnd _
  have hval : ∀ (j : Nat) t v, Try.f5.params[j]? = some t → args[j]? = some v → Value.okWide Try.prog W .any base t v := hval0
  have hW' := hW
  obtain ⟨p, q, hA0, hV, rfl, hfz, hnd⟩ := hW
  have hA : DataW.TrodAll enc Try.prog W 0 (fun _ => true) true Try.f5.params.toList args.toList ds p := hA0
  rw [Try.params5] at hA hval
  obtain ⟨v0, vs0, d0, ds0, p0, q0, hargs, rfl, rfl, h0, r0⟩ := trodAll_cons hA
  obtain ⟨v1, vs1, d1, ds1, p1, q1, rfl, rfl, rfl, h1, r1⟩ := trodAll_cons r0
  obtain ⟨v2, vs2, d2, ds2, p2, q2, rfl, rfl, rfl, h2, r2⟩ := trodAll_cons r1
  obtain ⟨rfl, rfl, rfl⟩ := trodAll_nil r2
  obtain rfl : args = #[v0, v1, v2] := by cases args; simp_all
  obtain ⟨rfl, rfl⟩ := trodVars_none hV
  obtain ⟨a0, rfl, rfl, rfl, w0⟩ := open_int Try.underlying25 (hval 0 25 v0 rfl rfl) h0
  obtain ⟨a1, rfl, rfl, rfl, w1⟩ := open_string Try.underlying9 (hval 1 9 v1 rfl rfl) h1
  obtain ⟨a2, rfl, rfl, rfl, w2⟩ := open_string Try.underlying9 (hval 2 9 v2 rfl rfl) h2
  clear hA0 hval0
  simp only [List.append_nil] at hW'
  refine (VarintBack_walk a0 a1 a2 w0 w1 w2 W).mono fun e W' ⟨he, hg⟩ => ?_
  subst he
  exact ⟨_, rfl, lift_post (pa := []) (pv := []) hW' (fun _ _ _ => (trodAll_cons_mk (shut_bool Try.underlying4 _) trodAll_mk0)) (fun sp _ => (trodAll_cons_mk (shut_int Try.underlying25 w0) (trodAll_cons_mk (shut_string Try.underlying9 w1) (trodAll_cons_mk (shut_string Try.underlying9 w2) trodAll_mk0)))) (fun _ _ => rfl) rfl
    hg (ok_one (by kernel_rfl) rfl (okWide_bool_mk Try.underlying4 _))⟩

/-- THE STATEMENT of VarintBack: for every input the call returns true, and each argument reads behind it as before. -/
theorem VarintBack_holds : Rows.VarintBackSaid :=
  OpenClaim.holds_of_wide 5 Try.f5 rfl rfl rfl rfl rfl rfl rfl ⟨rfl, rfl, rfl, rfl, rfl⟩ rfl rfl rfl rfl rfl (by kernel_rfl) Try.func5 (by kernel_rfl)
    (of_decide_eq_true (by kernel_rfl)) (by unfold Func.isWrapper; first | (rw [if_pos (by decide +kernel)]; kernel_rfl) | (rw [if_neg (by decide +kernel)]; exact ⟨rfl, rfl⟩))
    (fun os started H enc _ => VarintBack_lifted os started H enc)
end Go.Proofs.Ytdhmehciebgblaa
