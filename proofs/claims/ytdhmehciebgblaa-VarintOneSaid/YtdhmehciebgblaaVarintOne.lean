/-
  VarintOne (P1.4): unlike numbers have unlike bytes, and none begins by those of another one; a greater number has no fewer bytes: the statement holds for every input. Conditions: none beyond the statement's own.
-/
import Derived.Test.YtdhmehciebgblaaVw
import Derived.Test.YtdhmehciebgblaaLift
import Derived.Lib.Strings
namespace Go.Proofs.Ytdhmehciebgblaa
open Go.ChangeShapes Go.WideShapes Go.ChangeAt Go.RowKit
set_option linter.unusedVariables false

theorem putS_ne {a b : Nat} (ha : a < 18446744073709551616) (hb : b < 18446744073709551616) (h : a ≠ b) : ((putS a).toList == (putS b).toList) = false := by
  rw [putS_list, putS_list, beq_eq_false_iff_ne]
  intro e
  exact h (Vm.put_prefix ha hb (r := []) (by rw [List.append_nil, e]))
theorem putS_begins {a b : Nat} (ha : a < 18446744073709551616) (hb : b < 18446744073709551616) (h : a ≠ b) : (((putS b).extract 0 (putS a).size).toList == (putS a).toList) = false := by
  rw [ByteArray.toList_eq, Lib.extract_data, putS_list, beq_eq_false_iff_ne]
  intro e
  have e2 : (putS b).data.toList = Vm.put b := by simp [putS]
  rw [e2, List.drop_zero] at e
  refine h (Vm.put_prefix ha hb (r := (Vm.put b).drop ((putS a).size - 0)) ?_)
  rw [← e, List.take_append_drop]

set_option maxRecDepth 100000 in
theorem VarintOne_walk (x y : Int) (wx : (Lit.int .u64 x).wf = true) (wy : (Lit.int .u64 y).wf = true) (w : World) :
    Calls Try.prog 6 #[.int .u64 x, .int .u64 y] w fun e w' => e = .returned (.bool true) ∧ Below w.heap.size w w' := by
  have hx : 0 ≤ x ∧ x ≤ 18446744073709551615 := by simpa [Lit.wf, IntKind.min, IntKind.max, IntKind.signed, IntKind.bits] using wx
  have hy : 0 ≤ y ∧ y ≤ 18446744073709551615 := by simpa [Lit.wf, IntKind.min, IntKind.max, IntKind.signed, IntKind.bits] using wy
  obtain ⟨a, rfl⟩ := Int.eq_ofNat_of_zero_le hx.1
  obtain ⟨b, rfl⟩ := Int.eq_ofNat_of_zero_le hy.1
  obtain ⟨_, ha⟩ := hx
  obtain ⟨_, hb⟩ := hy
  clear wx wy
  have ha' : a < 18446744073709551616 := by omega
  have hb' : b < 18446744073709551616 := by omega
  have hcases : a = b ∨ (a ≠ b ∧ (putS b).size < (putS a).size ∧ b < a) ∨ (a ≠ b ∧ (putS a).size ≤ (putS b).size) := by
    rcases Nat.lt_trichotomy a b with h | h | h
    · exact Or.inr (Or.inr ⟨by omega, by rw [putS_size, putS_size]; exact Vm.put_mono 10 a b (by omega)⟩)
    · exact Or.inl h
    · by_cases hs : (putS b).size < (putS a).size
      · exact Or.inr (Or.inl ⟨by omega, hs, h⟩)
      · exact Or.inr (Or.inr ⟨by omega, by omega⟩)
  rcases hcases with rfl | ⟨hne, hs, hlt⟩ | ⟨hne, hs⟩
  · have hq : ((putS a).toList == (putS a).toList) = true := by simp
    go_enter Try.func6, Try.ntmps6
    go_wp2_with fail
    refine (works_any _).mono ?_
    rintro e w1 ⟨rfl, b1⟩
    go_wp2_with fail
    refine (put_s _ ha' _).mono ?_
    rintro e w2 ⟨rfl, b2⟩
    go_wp2_with fail
    refine (put_s _ hb' _).mono ?_
    rintro e w3 ⟨rfl, b3⟩
    have b13 := b1.trans ((b2.mono b1.size).trans (b3.mono (Nat.le_trans b1.size b2.size)))
    go_wp2_with fail
    all_goals go_ret
    all_goals first | exact ⟨rfl, b13⟩ | exact ⟨ret_bool (by simp), b13⟩
  · have hq : ((putS a).toList == (putS b).toList) = false := putS_ne ha' hb' hne
    have hi : ((a : Int) == (b : Int)) = false := by simp; omega
    go_enter Try.func6, Try.ntmps6
    go_wp2_with fail
    refine (works_any _).mono ?_
    rintro e w1 ⟨rfl, b1⟩
    go_wp2_with fail
    refine (put_s _ ha' _).mono ?_
    rintro e w2 ⟨rfl, b2⟩
    go_wp2_with fail
    refine (put_s _ hb' _).mono ?_
    rintro e w3 ⟨rfl, b3⟩
    have b13 := b1.trans ((b2.mono b1.size).trans (b3.mono (Nat.le_trans b1.size b2.size)))
    go_wp2_with fail
    all_goals go_ret
    all_goals first | exact ⟨rfl, b13⟩ | exact ⟨ret_bool (by simp), b13⟩
  · have hq : ((putS a).toList == (putS b).toList) = false := putS_ne ha' hb' hne
    have hi : ((a : Int) == (b : Int)) = false := by simp; omega
    have hp : (((putS b).extract 0 (putS a).size).toList == (putS a).toList) = false := putS_begins ha' hb' hne
    go_enter Try.func6, Try.ntmps6
    go_wp2_with fail
    refine (works_any _).mono ?_
    rintro e w1 ⟨rfl, b1⟩
    go_wp2_with fail
    refine (put_s _ ha' _).mono ?_
    rintro e w2 ⟨rfl, b2⟩
    go_wp2_with fail
    refine (put_s _ hb' _).mono ?_
    rintro e w3 ⟨rfl, b3⟩
    have b13 := b1.trans ((b2.mono b1.size).trans (b3.mono (Nat.le_trans b1.size b2.size)))
    go_wp2_with fail
    all_goals go_ret
    all_goals first | exact ⟨rfl, b13⟩ | exact ⟨ret_bool (by simp), b13⟩

set_option maxRecDepth 100000 in
theorem VarintOne_lifted (os : Os) (started : os.Started) (H : Type) (enc : TypeId × Value → H) :
    ReturnsInHanded {} Try.checked os 6 .any (Rows.varintOneSpec.pre6 enc Try.prog Try.f6 Rows.varintOneRow.domain false) (Rows.varintOneSpec.post enc Try.prog Try.f6 false true false false) := by
  refine returnsInHanded_of_change (C := Try.checked) lift_own started (by kernel_rfl) Try.func6
    (ChangeSpec.witness6 (enc := enc) (C := Try.checked) false ⟨#[], #[.int .u64 0, .int .u64 0], []⟩ 8 (by kernel_rfl) (by kernel_rfl) (by kernel_rfl) (by kernel_rfl)) ?_
  intro W base args ds gs before hval0 hW hcnd _
  have hval : ∀ (j : Nat) t v, Try.f6.params[j]? = some t → args[j]? = some v → Value.okWide Try.prog W .any base t v := hval0
  have hW' := hW
  obtain ⟨p, q, hA0, hV, rfl, hfz, hnd⟩ := hW
  have hA : DataW.TrodAll enc Try.prog W 0 (fun _ => true) true Try.f6.params.toList args.toList ds p := hA0
  rw [Try.params6] at hA hval
  obtain ⟨v0, vs0, d0, ds0, p0, q0, hargs, rfl, rfl, h0, r0⟩ := trodAll_cons hA
  obtain ⟨v1, vs1, d1, ds1, p1, q1, rfl, rfl, rfl, h1, r1⟩ := trodAll_cons r0
  obtain ⟨rfl, rfl, rfl⟩ := trodAll_nil r1
  obtain rfl : args = #[v0, v1] := by cases args; simp_all
  obtain ⟨rfl, rfl⟩ := trodVars_none hV
  obtain ⟨a0, rfl, rfl, rfl, w0⟩ := open_int Try.underlying25 (hval 0 25 v0 rfl rfl) h0
  obtain ⟨a1, rfl, rfl, rfl, w1⟩ := open_int Try.underlying25 (hval 1 25 v1 rfl rfl) h1
  clear hA0 hval0
  simp only [List.append_nil] at hW'
  refine (VarintOne_walk a0 a1 w0 w1 W).mono fun e W' ⟨he, hg⟩ => ?_
  subst he
  exact ⟨_, rfl, lift_post (pa := []) (pv := []) hW' (fun _ _ _ => (trodAll_cons_mk (shut_bool Try.underlying4 _) trodAll_mk0)) (fun sp _ => (trodAll_cons_mk (shut_int Try.underlying25 w0) (trodAll_cons_mk (shut_int Try.underlying25 w1) trodAll_mk0))) (fun _ _ => rfl) rfl
    hg (ok_one (by kernel_rfl) rfl (okWide_bool_mk Try.underlying4 _))⟩

/-- THE STATEMENT of VarintOne: for every input the call returns true, and each argument reads behind it as before. -/
theorem VarintOne_holds : Rows.VarintOneSaid :=
  OpenClaim.holds_of_wide 6 Try.f6 rfl rfl rfl rfl rfl rfl rfl ⟨rfl, rfl, rfl, rfl, rfl⟩ rfl rfl rfl rfl rfl (by kernel_rfl) Try.func6 (by kernel_rfl)
    (of_decide_eq_true (by kernel_rfl)) (by unfold Func.isWrapper; first | (rw [if_pos (by decide +kernel)]; kernel_rfl) | (rw [if_neg (by decide +kernel)]; exact ⟨rfl, rfl⟩))
    (fun os started H enc _ => VarintOne_lifted os started H enc)
end Go.Proofs.Ytdhmehciebgblaa
