/-
  ExprRound (P4.5): Sub of Add of one number is what it was added to; Add and Mul may be turned about, and put in any brackets, and Mul goes over Add; Less and Equal are 0 or 1, and of Less, Less turned about, and Equal just one is 1: the statement holds for every input. No condition.
-/
import Derived.Test.YtlalknapmnadpaaEk
import Derived.Test.YtlalknapmnadpaaEz
import Derived.Test.YtlalknapmnadpaaLift
namespace Go.Proofs.Ytlalknapmnadpaa
open Go.ChangeShapes Go.WideShapes Go.ChangeAt Go.RowKit Go.ChangeMaps
set_option linter.unusedVariables false
theorem i64_of {n : Int} (h : (Lit.int .i64 n).wf = true) : -9223372036854775808 ≤ n ∧ n < 9223372036854775808 := by
  have : -9223372036854775808 ≤ n ∧ n ≤ 9223372036854775807 := by simpa [Lit.wf, IntKind.min, IntKind.max, IntKind.signed, IntKind.bits] using h
  omega
def In64 (n : Int) : Prop := -9223372036854775808 ≤ n ∧ n < 9223372036854775808
set_option maxRecDepth 100000 in
theorem come_any (op : Nat) (a b v : Int) (h4 : 4 ≤ op) (h8 : op ≤ 8) (ha : In64 a) (hb : In64 b) (hv : opV op a b = v) (w : World) :
    Calls Try.prog 29 #[.int .u8 op, .int .i64 a, .int .i64 b] w fun r w' => r = .returned (.int .i64 v) ∧ Below w.heap.size w w' := by
  have HE := Lib.hid (ex_two op a b h4 h8 ha.1 ha.2 hb.1 hb.2 w)
  rw [hv] at HE
  clear hv ha hb
  go_enter Try.func29, Try.ntmps29
  go_wp2_with fail
  refine HE.out.mono ?_
  rintro r w1 ⟨rfl, b1⟩
  go_wp2_with fail
  go_ret
  exact ⟨rfl, b1⟩
set_option maxRecDepth 100000 in
theorem add_is (a b v : Int) (ha : In64 a) (hb : In64 b) (hv : wrap64 (a + b) = v) (w : World) :
    Calls Try.prog 28 #[.int .i64 a, .int .i64 b] w fun r w' => r = .returned (.int .i64 v) ∧ Below w.heap.size w w' := by
  have HE := Lib.hid (come_any 4 a b v (by decide) (by decide) ha hb hv w)
  clear hv ha hb
  go_enter Try.func28, Try.ntmps28
  go_wp2_with fail
  refine HE.out.mono ?_
  rintro r w1 ⟨rfl, b1⟩
  go_wp2_with fail
  go_ret
  exact ⟨rfl, b1⟩
set_option maxRecDepth 100000 in
theorem mul_is (a b v : Int) (ha : In64 a) (hb : In64 b) (hv : wrap64 (a * b) = v) (w : World) :
    Calls Try.prog 30 #[.int .i64 a, .int .i64 b] w fun r w' => r = .returned (.int .i64 v) ∧ Below w.heap.size w w' := by
  have HE := Lib.hid (come_any 6 a b v (by decide) (by decide) ha hb hv w)
  clear hv ha hb
  go_enter Try.func30, Try.ntmps30
  go_wp2_with fail
  refine HE.out.mono ?_
  rintro r w1 ⟨rfl, b1⟩
  go_wp2_with fail
  go_ret
  exact ⟨rfl, b1⟩
theorem sub_is (a b v : Int) (ha : In64 a) (hb : In64 b) (hv : wrap64 (a - b) = v) (w : World) :
    Calls Try.prog 29 #[.int .u8 5, .int .i64 a, .int .i64 b] w fun r w' => r = .returned (.int .i64 v) ∧ Below w.heap.size w w' :=
  come_any 5 a b v (by decide) (by decide) ha hb hv w
theorem less_is (a b v : Int) (ha : In64 a) (hb : In64 b) (hv : (if a < b then 1 else 0) = v) (w : World) :
    Calls Try.prog 29 #[.int .u8 7, .int .i64 a, .int .i64 b] w fun r w' => r = .returned (.int .i64 v) ∧ Below w.heap.size w w' :=
  come_any 7 a b v (by decide) (by decide) ha hb hv w
theorem equal_is (a b v : Int) (ha : In64 a) (hb : In64 b) (hv : (if a = b then 1 else 0) = v) (w : World) :
    Calls Try.prog 29 #[.int .u8 8, .int .i64 a, .int .i64 b] w fun r w' => r = .returned (.int .i64 v) ∧ Below w.heap.size w w' :=
  come_any 8 a b v (by decide) (by decide) ha hb hv w

set_option maxRecDepth 100000 in
set_option maxHeartbeats 4000000 in
theorem round_case (a b c lx ly lz : Int) (ha : In64 a) (hb : In64 b) (hc : In64 c) (hx : (if a < b then 1 else 0) = lx) (hy : (if b < a then 1 else 0) = ly) (hz : (if a = b then 1 else 0) = lz)
    (hl : (lx = 1 ∧ ly = 0 ∧ lz = 0 ∧ (a == b) = false ∧ decide (a < b) = true) ∨ (lx = 0 ∧ ly = 1 ∧ lz = 0 ∧ (a == b) = false ∧ decide (a < b) = false) ∨ (lx = 0 ∧ ly = 0 ∧ lz = 1 ∧ (a == b) = true ∧ decide (a < b) = false)) (w : World) :
    Calls Try.prog 8 #[.int .i64 a, .int .i64 b, .int .i64 c] w fun e w' => e = .returned (.bool true) ∧ Below w.heap.size w w' := by
  have i1 : In64 1 := ⟨by decide, by decide⟩
  have i0 : In64 0 := ⟨by decide, by decide⟩
  have rs : In64 (wrap64 (a + b)) := wrap_rng _
  have rt : In64 (wrap64 (wrap64 (a + b) + c)) := wrap_rng _
  have ru : In64 (wrap64 (b + c)) := wrap_rng _
  have rp : In64 (wrap64 (a * b)) := wrap_rng _
  have rk : In64 (wrap64 (wrap64 (a * b) * c)) := wrap_rng _
  have rr : In64 (wrap64 (b * c)) := wrap_rng _
  have rv : In64 (wrap64 (a * wrap64 (b + c))) := wrap_rng _
  have rz : In64 (wrap64 (a * c)) := wrap_rng _
  have C0 := Lib.hid (add_is (a) (b) (wrap64 (a + b)) ha hb (rfl))
  have C1 := Lib.hid (sub_is (wrap64 (a + b)) (b) (a) rs hb (round_sub a b ha.1 ha.2))
  have C2 := Lib.hid (add_is (b) (a) (wrap64 (a + b)) hb ha (by rw [Int.add_comm]))
  have C3 := Lib.hid (add_is (wrap64 (a + b)) (c) (wrap64 (wrap64 (a + b) + c)) rs hc (rfl))
  have C4 := Lib.hid (add_is (b) (c) (wrap64 (b + c)) hb hc (rfl))
  have C5 := Lib.hid (add_is (a) (wrap64 (b + c)) (wrap64 (wrap64 (a + b) + c)) ha ru ((round_add a b c).symm))
  have C6 := Lib.hid (mul_is (a) (b) (wrap64 (a * b)) ha hb (rfl))
  have C7 := Lib.hid (mul_is (b) (a) (wrap64 (a * b)) hb ha (by rw [Int.mul_comm]))
  have C8 := Lib.hid (mul_is (wrap64 (a * b)) (c) (wrap64 (wrap64 (a * b) * c)) rp hc (rfl))
  have C9 := Lib.hid (mul_is (b) (c) (wrap64 (b * c)) hb hc (rfl))
  have C10 := Lib.hid (mul_is (a) (wrap64 (b * c)) (wrap64 (wrap64 (a * b) * c)) ha rr ((round_mul a b c).symm))
  have C11 := Lib.hid (mul_is (a) (wrap64 (b + c)) (wrap64 (a * wrap64 (b + c))) ha ru (rfl))
  have C12 := Lib.hid (mul_is (a) (c) (wrap64 (a * c)) ha hc (rfl))
  have C13 := Lib.hid (add_is (wrap64 (a * b)) (wrap64 (a * c)) (wrap64 (a * wrap64 (b + c))) rp rz ((round_over a b c).symm))
  have M1 := Lib.hid (mul_is a 1 a ha i1 (by rw [Int.mul_one]; exact wrap_self a ha.1 ha.2))
  have A0 := Lib.hid (add_is a 0 a ha i0 (by rw [Int.add_zero]; exact wrap_self a ha.1 ha.2))
  have LX := Lib.hid (less_is a b lx ha hb hx)
  have LY := Lib.hid (less_is b a ly hb ha hy)
  have LZ := Lib.hid (equal_is a b lz ha hb hz)
  have HL := Lib.hid hl
  generalize hgt : wrap64 (wrap64 (a + b) + c) = t at *
  generalize hgk : wrap64 (wrap64 (a * b) * c) = k at *
  generalize hgv : wrap64 (a * wrap64 (b + c)) = v at *
  generalize hgs : wrap64 (a + b) = s at *
  generalize hgu : wrap64 (b + c) = u at *
  generalize hgp : wrap64 (a * b) = p at *
  generalize hgr : wrap64 (b * c) = r at *
  generalize hgz : wrap64 (a * c) = z at *
  clear hgt hgk hgv hgs hgu hgp hgr hgz rs rt ru rp rk rr rv rz i0 i1 ha hb hc hx hy hz hl
  go_enter Try.func8, Try.ntmps8
  go_wp2_with fail
  refine (awake_any _).mono ?_
  rintro e w0 ⟨rfl, b0⟩
  go_wp2_with fail
  refine (C0.out _).mono ?_
  rintro e w1 ⟨rfl, d1⟩
  have b1 := b0.trans (d1.mono b0.size)
  clear d1 b0
  go_wp2_with fail
  refine (C1.out _).mono ?_
  rintro e w2 ⟨rfl, d2⟩
  have b2 := b1.trans (d2.mono b1.size)
  clear d2 b1
  go_wp2_with fail
  refine (C0.out _).mono ?_
  rintro e w3 ⟨rfl, d3⟩
  have b3 := b2.trans (d3.mono b2.size)
  clear d3 b2
  go_wp2_with fail
  refine (C2.out _).mono ?_
  rintro e w4 ⟨rfl, d4⟩
  have b4 := b3.trans (d4.mono b3.size)
  clear d4 b3
  go_wp2_with fail
  refine (C0.out _).mono ?_
  rintro e w5 ⟨rfl, d5⟩
  have b5 := b4.trans (d5.mono b4.size)
  clear d5 b4
  go_wp2_with fail
  refine (C3.out _).mono ?_
  rintro e w6 ⟨rfl, d6⟩
  have b6 := b5.trans (d6.mono b5.size)
  clear d6 b5
  go_wp2_with fail
  refine (C4.out _).mono ?_
  rintro e w7 ⟨rfl, d7⟩
  have b7 := b6.trans (d7.mono b6.size)
  clear d7 b6
  go_wp2_with fail
  refine (C5.out _).mono ?_
  rintro e w8 ⟨rfl, d8⟩
  have b8 := b7.trans (d8.mono b7.size)
  clear d8 b7
  go_wp2_with fail
  refine (C6.out _).mono ?_
  rintro e w9 ⟨rfl, d9⟩
  have b9 := b8.trans (d9.mono b8.size)
  clear d9 b8
  go_wp2_with fail
  refine (C7.out _).mono ?_
  rintro e w10 ⟨rfl, d10⟩
  have b10 := b9.trans (d10.mono b9.size)
  clear d10 b9
  go_wp2_with fail
  refine (C6.out _).mono ?_
  rintro e w11 ⟨rfl, d11⟩
  have b11 := b10.trans (d11.mono b10.size)
  clear d11 b10
  go_wp2_with fail
  refine (C8.out _).mono ?_
  rintro e w12 ⟨rfl, d12⟩
  have b12 := b11.trans (d12.mono b11.size)
  clear d12 b11
  go_wp2_with fail
  refine (C9.out _).mono ?_
  rintro e w13 ⟨rfl, d13⟩
  have b13 := b12.trans (d13.mono b12.size)
  clear d13 b12
  go_wp2_with fail
  refine (C10.out _).mono ?_
  rintro e w14 ⟨rfl, d14⟩
  have b14 := b13.trans (d14.mono b13.size)
  clear d14 b13
  go_wp2_with fail
  refine (C4.out _).mono ?_
  rintro e w15 ⟨rfl, d15⟩
  have b15 := b14.trans (d15.mono b14.size)
  clear d15 b14
  go_wp2_with fail
  refine (C11.out _).mono ?_
  rintro e w16 ⟨rfl, d16⟩
  have b16 := b15.trans (d16.mono b15.size)
  clear d16 b15
  go_wp2_with fail
  refine (C6.out _).mono ?_
  rintro e w17 ⟨rfl, d17⟩
  have b17 := b16.trans (d17.mono b16.size)
  clear d17 b16
  go_wp2_with fail
  refine (C12.out _).mono ?_
  rintro e w18 ⟨rfl, d18⟩
  have b18 := b17.trans (d18.mono b17.size)
  clear d18 b17
  go_wp2_with fail
  refine (C13.out _).mono ?_
  rintro e w19 ⟨rfl, d19⟩
  have b19 := b18.trans (d19.mono b18.size)
  clear d19 b18
  go_wp2_with fail
  refine (M1.out _).mono ?_
  rintro e w20 ⟨rfl, d20⟩
  have b20 := b19.trans (d20.mono b19.size)
  clear d20 b19
  go_wp2_with fail
  refine (A0.out _).mono ?_
  rintro e w21 ⟨rfl, d21⟩
  have b21 := b20.trans (d21.mono b20.size)
  clear d21 b20
  go_wp2_with fail
  refine (LX.out _).mono ?_
  rintro e w22 ⟨rfl, d22⟩
  have b22 := b21.trans (d22.mono b21.size)
  clear d22 b21
  go_wp2_with fail
  refine (LY.out _).mono ?_
  rintro e w23 ⟨rfl, d23⟩
  have b23 := b22.trans (d23.mono b22.size)
  clear d23 b22
  go_wp2_with fail
  refine (LZ.out _).mono ?_
  rintro e w24 ⟨rfl, d24⟩
  have b24 := b23.trans (d24.mono b23.size)
  clear d24 b23
  clear C0 C1 C2 C3 C4 C5 C6 C7 C8 C9 C10 C11 C12 C13 M1 A0 LX LY LZ
  rcases HL.out with ⟨rfl, rfl, rfl, e1, e2⟩ | ⟨rfl, rfl, rfl, e1, e2⟩ | ⟨rfl, rfl, rfl, e1, e2⟩
  all_goals
    go_wp2_with fail
    go_ret
    exact ⟨rfl, b24⟩

theorem ExprRound_walk (a b c : Int) (wa : (Lit.int .i64 a).wf = true) (wb : (Lit.int .i64 b).wf = true) (wc : (Lit.int .i64 c).wf = true) (w : World) :
    Calls Try.prog 8 #[.int .i64 a, .int .i64 b, .int .i64 c] w fun e w' => e = .returned (.bool true) ∧ Below w.heap.size w w' := by
  have ha := i64_of wa
  have hb := i64_of wb
  have hc := i64_of wc
  refine round_case a b c _ _ _ ha hb hc rfl rfl rfl ?_ w
  rcases (by omega : a < b ∨ b < a ∨ a = b) with h | h | h
  · exact .inl ⟨if_pos h, if_neg (by omega), if_neg (by omega), beq_eq_false_iff_ne.2 (by omega), decide_eq_true h⟩
  · exact .inr (.inl ⟨if_neg (by omega), if_pos h, if_neg (by omega), beq_eq_false_iff_ne.2 (by omega), decide_eq_false (by omega)⟩)
  · exact .inr (.inr ⟨if_neg (by omega), if_neg (by omega), if_pos h, beq_iff_eq.2 h, decide_eq_false (by omega)⟩)

set_option maxRecDepth 100000 in
theorem ExprRound_lifted (os : Os) (started : os.Started) (H : Type) (enc : TypeId × Value → H) :
    ReturnsInHanded {} Try.checked os 8 .any (Rows.exprRoundSpec.pre6 enc Try.prog Try.f8 Rows.exprRoundRow.domain false) (Rows.exprRoundSpec.post enc Try.prog Try.f8 false true false false) := by
  refine returnsInHanded_of_change (C := Try.checked) lift_own started (by kernel_rfl) Try.func8
    (ChangeSpec.witness6 (enc := enc) (C := Try.checked) false ⟨#[], #[.int .i64 0, .int .i64 0, .int .i64 0], []⟩ 8 (by kernel_rfl) (by kernel_rfl) (by kernel_rfl) (by kernel_rfl)) ?_
  intro W base args ds gs before hval0 hW hcnd _
  have hval : ∀ (j : Nat) t v, Try.f8.params[j]? = some t → args[j]? = some v → Value.okWide Try.prog W .any base t v := hval0
  have hW' := hW
  obtain ⟨p, q, hA0, hV, rfl, hfz, hnd⟩ := hW
  have hA : DataW.TrodAll enc Try.prog W 0 (fun _ => true) true Try.f8.params.toList args.toList ds p := hA0
  rw [Try.params8] at hA hval
  obtain ⟨v0, vs0, d0, ds0, p0, q0, hargs, rfl, rfl, h0, r0⟩ := trodAll_cons hA
  obtain ⟨v1, vs1, d1, ds1, p1, q1, rfl, rfl, rfl, h1, r1⟩ := trodAll_cons r0
  obtain ⟨v2, vs2, d2, ds2, p2, q2, rfl, rfl, rfl, h2, r2⟩ := trodAll_cons r1
  obtain ⟨rfl, rfl, rfl⟩ := trodAll_nil r2
  obtain rfl : args = #[v0, v1, v2] := by cases args; simp_all
  obtain ⟨rfl, rfl⟩ := trodVars_none hV
  obtain ⟨a0, rfl, rfl, rfl, w0⟩ := open_int Try.underlying2 (hval 0 2 v0 rfl rfl) h0
  obtain ⟨a1, rfl, rfl, rfl, w1⟩ := open_int Try.underlying2 (hval 1 2 v1 rfl rfl) h1
  obtain ⟨a2, rfl, rfl, rfl, w2⟩ := open_int Try.underlying2 (hval 2 2 v2 rfl rfl) h2
  clear hA0 hval0
  simp only [List.append_nil] at hW'
  refine (ExprRound_walk a0 a1 a2 w0 w1 w2 W).mono fun e W' ⟨he, hg⟩ => ?_
  subst he
  exact ⟨_, rfl, lift_post (pa := []) (pv := []) hW' (fun _ _ _ => (trodAll_cons_mk (shut_bool Try.underlying4 _) trodAll_mk0)) (fun sp _ => (trodAll_cons_mk (shut_int Try.underlying2 w0) (trodAll_cons_mk (shut_int Try.underlying2 w1) (trodAll_cons_mk (shut_int Try.underlying2 w2) trodAll_mk0)))) (fun _ _ => rfl) rfl
    hg (ok_one (by kernel_rfl) rfl (okWide_bool_mk Try.underlying4 _))⟩

/-- THE STATEMENT of ExprRound: for every input the call returns true, and each argument reads behind it as before. -/
theorem ExprRound_holds : Rows.ExprRoundSaid :=
  OpenClaim.holds_of_wide 8 Try.f8 rfl rfl rfl rfl rfl rfl rfl ⟨rfl, rfl, rfl, rfl, rfl⟩ rfl rfl rfl rfl rfl (by kernel_rfl) Try.func8 (by kernel_rfl)
    (of_decide_eq_true (by kernel_rfl)) (by unfold Func.isWrapper; first | (rw [if_pos (by decide +kernel)]; kernel_rfl) | (rw [if_neg (by decide +kernel)]; exact ⟨rfl, rfl⟩))
    (fun os started H enc _ => ExprRound_lifted os started H enc)
end Go.Proofs.Ytlalknapmnadpaa
