/-
  VarintZig (P1.6): Zag of Zig is the number, Zig of Zag too; of two whole numbers of one sign the one that is farther from 0 is the greater number: the statement holds for every input. Conditions: none beyond the statement's own.
-/
import Derived.Test.YtdhmehciebgblaaVw
import Derived.Test.YtdhmehciebgblaaLift
namespace Go.Proofs.Ytdhmehciebgblaa
open Go.ChangeShapes Go.WideShapes Go.ChangeAt Go.RowKit
set_option linter.unusedVariables false

def zigF (x : Int) : Int := if x < 0 then -2 * x - 1 else 2 * x
def zagF (n : Int) : Int := if n % 2 = 0 then n / 2 else - (n / 2) - 1
theorem zig_f (x : Int) (h0 : -9223372036854775808 ≤ x) (h1 : x ≤ 9223372036854775807) (w : World) :
    Calls Try.prog 12 #[.int .i64 x] w fun e w' => e = .returned (.int .u64 (zigF x)) ∧ w = w' := zig_any x h0 (by omega) w
theorem zag_f (n : Int) (h0 : 0 ≤ n) (h1 : n ≤ 18446744073709551615) (w : World) :
    Calls Try.prog 13 #[.int .u64 n] w fun e w' => e = .returned (.int .i64 (zagF n)) ∧ w = w' := zag_any n h0 h1 w
theorem zag_zig (x : Int) : zagF (zigF x) = x := by unfold zagF zigF; split <;> split <;> omega
theorem zig_zag (n : Int) (h : 0 ≤ n) : zigF (zagF n) = n := by unfold zagF zigF; split <;> split <;> omega
theorem zig_rng (x : Int) (h0 : -9223372036854775808 ≤ x) (h1 : x ≤ 9223372036854775807) : 0 ≤ zigF x ∧ zigF x ≤ 18446744073709551615 := by unfold zigF; split <;> omega
theorem zag_rng (n : Int) (h0 : 0 ≤ n) (h1 : n ≤ 18446744073709551615) : -9223372036854775808 ≤ zagF n ∧ zagF n ≤ 9223372036854775807 := by unfold zagF; split <;> omega
theorem zag_back (x : Int) (h0 : -9223372036854775808 ≤ x) (h1 : x ≤ 9223372036854775807) (w : World) :
    Calls Try.prog 13 #[.int .u64 (zigF x)] w fun e w' => e = .returned (.int .i64 x) ∧ w = w' := by
  have := zag_f (zigF x) (zig_rng x h0 h1).1 (zig_rng x h0 h1).2 w
  rwa [zag_zig] at this
theorem zig_back (n : Int) (h0 : 0 ≤ n) (h1 : n ≤ 18446744073709551615) (w : World) :
    Calls Try.prog 12 #[.int .i64 (zagF n)] w fun e w' => e = .returned (.int .u64 n) ∧ w = w' := by
  have := zig_f (zagF n) (zag_rng n h0 h1).1 (zag_rng n h0 h1).2 w
  rwa [zig_zag n h0] at this

set_option maxRecDepth 100000 in
theorem VarintZig_walk (x y n : Int) (wx : (Lit.int .i64 x).wf = true) (wy : (Lit.int .i64 y).wf = true) (wn : (Lit.int .u64 n).wf = true) (w : World) :
    Calls Try.prog 7 #[.int .i64 x, .int .i64 y, .int .u64 n] w fun e w' => e = .returned (.bool true) ∧ Below w.heap.size w w' := by
  have hx : -9223372036854775808 ≤ x ∧ x ≤ 9223372036854775807 := by simpa [Lit.wf, IntKind.min, IntKind.max, IntKind.signed, IntKind.bits] using wx
  have hy : -9223372036854775808 ≤ y ∧ y ≤ 9223372036854775807 := by simpa [Lit.wf, IntKind.min, IntKind.max, IntKind.signed, IntKind.bits] using wy
  have hn : 0 ≤ n ∧ n ≤ 18446744073709551615 := by simpa [Lit.wf, IntKind.min, IntKind.max, IntKind.signed, IntKind.bits] using wn
  obtain ⟨hx1, hx2⟩ := hx
  obtain ⟨hy1, hy2⟩ := hy
  obtain ⟨hn1, hn2⟩ := hn
  clear wx wy wn
  have key : (0 ≤ x ∧ 0 ≤ y ∧ x < y ∧ zigF x < zigF y) ∨ (0 ≤ x ∧ 0 ≤ y ∧ y ≤ x ∧ zigF y ≤ zigF x) ∨ (0 ≤ x ∧ y < 0) ∨ (x < 0 ∧ 0 ≤ y) ∨ (x < 0 ∧ y < 0 ∧ y < x ∧ zigF x < zigF y) ∨ (x < 0 ∧ y < 0 ∧ x ≤ y ∧ zigF y ≤ zigF x) := by
    unfold zigF; split <;> split <;> omega
  rcases key with ⟨c1, c2, c3, c4⟩ | ⟨c1, c2, c3, c4⟩ | ⟨c1, c2⟩ | ⟨c1, c2⟩ | ⟨c1, c2, c3, c4⟩ | ⟨c1, c2, c3, c4⟩
  all_goals
    go_enter Try.func7, Try.ntmps7
    go_wp2_with fail
    refine (works_any _).mono ?_
    rintro e w1 ⟨rfl, b1⟩
    go_wp2_with fail
    refine (zig_f x hx1 hx2 _).mono ?_
    rintro e w' ⟨rfl, rfl⟩
    go_wp2_with fail
    refine (zag_back x hx1 hx2 _).mono ?_
    rintro e w' ⟨rfl, rfl⟩
    go_wp2_with fail
    refine (zag_f n hn1 hn2 _).mono ?_
    rintro e w' ⟨rfl, rfl⟩
    go_wp2_with fail
    refine (zig_back n hn1 hn2 _).mono ?_
    rintro e w' ⟨rfl, rfl⟩
    go_wp2_with fail
    try (refine (zig_f x hx1 hx2 _).mono ?_; rintro e w' ⟨rfl, rfl⟩; go_wp2_with fail; refine (zig_f y hy1 hy2 _).mono ?_; rintro e w' ⟨rfl, rfl⟩; go_wp2_with fail)
    go_ret
    first | exact ⟨rfl, b1⟩ | exact ⟨ret_bool (by simp; omega), b1⟩

set_option maxRecDepth 100000 in
theorem VarintZig_lifted (os : Os) (started : os.Started) (H : Type) (enc : TypeId × Value → H) :
    ReturnsInHanded {} Try.checked os 7 .any (Rows.varintZigSpec.pre6 enc Try.prog Try.f7 Rows.varintZigRow.domain false) (Rows.varintZigSpec.post enc Try.prog Try.f7 false true false false) := by
  refine returnsInHanded_of_change (C := Try.checked) lift_own started (by kernel_rfl) Try.func7
    (ChangeSpec.witness6 (enc := enc) (C := Try.checked) false ⟨#[], #[.int .i64 0, .int .i64 0, .int .u64 0], []⟩ 8 (by kernel_rfl) (by kernel_rfl) (by kernel_rfl) (by kernel_rfl)) ?_
  intro W base args ds gs before hval0 hW hcnd _
  have hval : ∀ (j : Nat) t v, Try.f7.params[j]? = some t → args[j]? = some v → Value.okWide Try.prog W .any base t v := hval0
  have hW' := hW
  obtain ⟨p, q, hA0, hV, rfl, hfz, hnd⟩ := hW
  have hA : DataW.TrodAll enc Try.prog W 0 (fun _ => true) true Try.f7.params.toList args.toList ds p := hA0
  rw [Try.params7] at hA hval
  obtain ⟨v0, vs0, d0, ds0, p0, q0, hargs, rfl, rfl, h0, r0⟩ := trodAll_cons hA
  obtain ⟨v1, vs1, d1, ds1, p1, q1, rfl, rfl, rfl, h1, r1⟩ := trodAll_cons r0
  obtain ⟨v2, vs2, d2, ds2, p2, q2, rfl, rfl, rfl, h2, r2⟩ := trodAll_cons r1
  obtain ⟨rfl, rfl, rfl⟩ := trodAll_nil r2
  obtain rfl : args = #[v0, v1, v2] := by cases args; simp_all
  obtain ⟨rfl, rfl⟩ := trodVars_none hV
  obtain ⟨a0, rfl, rfl, rfl, w0⟩ := open_int Try.underlying2 (hval 0 2 v0 rfl rfl) h0
  obtain ⟨a1, rfl, rfl, rfl, w1⟩ := open_int Try.underlying2 (hval 1 2 v1 rfl rfl) h1
  obtain ⟨a2, rfl, rfl, rfl, w2⟩ := open_int Try.underlying25 (hval 2 25 v2 rfl rfl) h2
  clear hA0 hval0
  simp only [List.append_nil] at hW'
  refine (VarintZig_walk a0 a1 a2 w0 w1 w2 W).mono fun e W' ⟨he, hg⟩ => ?_
  subst he
  exact ⟨_, rfl, lift_post (pa := []) (pv := []) hW' (fun _ _ _ => (trodAll_cons_mk (shut_bool Try.underlying4 _) trodAll_mk0)) (fun sp _ => (trodAll_cons_mk (shut_int Try.underlying2 w0) (trodAll_cons_mk (shut_int Try.underlying2 w1) (trodAll_cons_mk (shut_int Try.underlying25 w2) trodAll_mk0)))) (fun _ _ => rfl) rfl
    hg (ok_one (by kernel_rfl) rfl (okWide_bool_mk Try.underlying4 _))⟩

/-- THE STATEMENT of VarintZig: for every input the call returns true, and each argument reads behind it as before. -/
theorem VarintZig_holds : Rows.VarintZigSaid :=
  OpenClaim.holds_of_wide 7 Try.f7 rfl rfl rfl rfl rfl rfl rfl ⟨rfl, rfl, rfl, rfl, rfl⟩ rfl rfl rfl rfl rfl (by kernel_rfl) Try.func7 (by kernel_rfl)
    (of_decide_eq_true (by kernel_rfl)) (by unfold Func.isWrapper; first | (rw [if_pos (by decide +kernel)]; kernel_rfl) | (rw [if_neg (by decide +kernel)]; exact ⟨rfl, rfl⟩))
    (fun os started H enc _ => VarintZig_lifted os started H enc)
end Go.Proofs.Ytdhmehciebgblaa
