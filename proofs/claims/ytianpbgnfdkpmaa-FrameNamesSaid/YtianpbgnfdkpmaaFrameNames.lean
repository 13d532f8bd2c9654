/-
  FrameNames (chapter 3's examples; where which error is told): the closed statement holds. No condition.
-/
import Derived.Test.YtianpbgnfdkpmaaFk
import Derived.Test.YtianpbgnfdkpmaaFw
import Derived.Test.YtianpbgnfdkpmaaLift
import Derived.Deep.DeepCutAuto
import Derived.Deep.CutBlock
namespace Go.Proofs.Ytianpbgnfdkpmaa
open Go.ChangeShapes Go.WideShapes Go.ChangeAt Go.RowKit Go.ChangeMaps
set_option linter.unusedVariables false

theorem big_make (x : Int) (h0 : 0 ≤ x) (h1 : x ≤ 1073741824) : ∃ (N : Nat) (M : Array Value) (S : ByteArray), (N : Int) = x ∧ S.size = N ∧
    (∀ W : World, (Instr.makeSlice 27 (.int .i64 x) (.int .i64 x)).run Try.prog W = .ok (.slice (some ⟨W.heap.size, 0, none⟩) N N) (W.alloc (.cells M 5))) ∧
    (∀ (W : World), (convert 27 9 (.slice (some ⟨W.heap.size, 0, none⟩) N N)).run Try.prog (W.alloc (.cells M 5)) = .ok (.string S) (W.alloc (.cells M 5))) := by
  obtain ⟨N, rfl⟩ := Int.eq_ofNat_of_zero_le h0
  obtain ⟨M, hm, hb⟩ := make_bytes N (by omega)
  exact ⟨N, M, ⟨(List.replicate N 0).toArray⟩, rfl, by show (List.replicate N (0 : UInt8)).toArray.size = N; simp, hm, fun W => (hb W).text (P := Try.prog) 27 9 5 N N u_bytes u_byte u_string (by simp)⟩

theorem abc_frame : frameS ⟨#[97, 98, 99]⟩ = ⟨#[3, 97, 98, 99, 34, 232, 148, 249]⟩ := by kernel_rfl
theorem wrap_abc (w : World) : Calls Try.prog 8 #[.string ⟨#[97, 98, 99]⟩] w fun e w' => e = .returned (.tuple #[.string ⟨#[3, 97, 98, 99, 34, 232, 148, 249]⟩, .int .i64 0]) ∧ Below w.heap.size w w' := by
  have h := wrap_any ⟨#[97, 98, 99]⟩ (by decide) w
  rw [abc_frame] at h
  exact h
theorem back_abc (w : World) : Calls Try.prog 10 #[.string ⟨#[97, 98, 99]⟩] w fun e w' => e = .returned (.bool true) ∧ Below w.heap.size w w' := back_yes ⟨#[97, 98, 99]⟩ (by decide) w
theorem n_empty : UnwIs ⟨#[]⟩ ⟨#[]⟩ 0 8 := u_bad ⟨#[]⟩ 8 (by decide) (by decide) (by kernel_rfl)
theorem n_wide : UnwIs ⟨#[128, 0]⟩ ⟨#[]⟩ 0 11 := u_bad ⟨#[128, 0]⟩ 11 (by decide) (by decide) (by kernel_rfl)
theorem n_range : UnwIs ⟨#[129, 128, 128, 8]⟩ ⟨#[]⟩ 0 20 := u_range ⟨#[129, 128, 128, 8]⟩ 16777217 4 (by decide) (by decide) (by kernel_rfl)
theorem n_short : UnwIs ⟨#[128, 128, 128, 8]⟩ ⟨#[]⟩ 4 8 := u_short ⟨#[128, 128, 128, 8]⟩ 16777216 4 (by decide) (by decide) (by decide) (by decide) (by kernel_rfl)
theorem n_cut : UnwIs ⟨#[3, 97, 98, 99, 34, 232, 148]⟩ ⟨#[]⟩ 7 8 := u_short ⟨#[3, 97, 98, 99, 34, 232, 148]⟩ 3 1 (by decide) (by decide) (by decide) (by decide) (by kernel_rfl)
theorem n_more : UnwIs ⟨#[3, 97, 98, 99, 34, 232, 148, 249, 120]⟩ ⟨#[]⟩ 8 10 := u_long ⟨#[3, 97, 98, 99, 34, 232, 148, 249, 120]⟩ 3 1 (by decide) (by decide) (by decide) (by decide) (by kernel_rfl)
theorem n_sum : UnwIs ⟨#[3, 97, 99, 99, 34, 232, 148, 249]⟩ ⟨#[]⟩ 4 9 := u_sum ⟨#[3, 97, 99, 99, 34, 232, 148, 249]⟩ 3 1 (by decide) (by decide) (by decide) (by kernel_rfl) (by kernel_rfl)
theorem cut_abc : (⟨#[3, 97, 98, 99, 34, 232, 148, 249]⟩ : ByteArray).extract 0 7 = ⟨#[3, 97, 98, 99, 34, 232, 148]⟩ := by kernel_rfl
theorem head_abc : (⟨#[3, 97, 98, 99, 34, 232, 148, 249]⟩ : ByteArray).extract 0 4 = ⟨#[3, 97, 98, 99]⟩ := by kernel_rfl
theorem more_abc : (⟨#[3, 97, 98, 99, 34, 232, 148, 249]⟩ : ByteArray) ++ ⟨#[120]⟩ = ⟨#[3, 97, 98, 99, 34, 232, 148, 249, 120]⟩ := by kernel_rfl

theorem no_c (s : ByteArray) (place e : Int) (p q : Nat) (hp : place = p) (he : e = q) (h : UnwIs s ⟨#[]⟩ p q) (w : World) :
    Calls Try.prog 11 #[.string s, .int .i64 place, .int .i64 e] w fun e w' => e = .returned (.bool true) ∧ Below w.heap.size w w' := by
  rw [hp, he]
  exact no_yes s p q h w
theorem num_large (n : Nat) (h : 2097152 ≤ n) : 4 ≤ (numS n).size := by
  rw [numS_size]
  have := Vm.put_mono 10 2097152 n h
  have e : (Vm.putF 10 2097152).length = 4 := by decide +kernel
  unfold Vm.put
  omega
theorem BRow.below {w w' : World} {g : Nat} {l : List UInt8} (h : BRow w g l) (hb : Below w.heap.size w w') (hg : g < w.heap.size) : BRow w' g l := fun j hj =>
  ⟨(hb.cell (p := ⟨g, j, none⟩) hg).trans (h j hj).1, (hb.frozen (p := ⟨g, j, none⟩) hg).trans (h j hj).2⟩

set_option maxRecDepth 100000 in
set_option maxHeartbeats 2000000 in
theorem FrameNames_walk (w : World) : Calls Try.prog 3 #[] w fun e w' => e = .returned (.bool true) ∧ Below w.heap.size w w' := by
  have hcv := fun (w : World) => run_bytes_of_string (P := Try.prog) w 9 27 5 ⟨#[3, 97, 98, 99, 34, 232, 148, 249]⟩ u_string u_bytes u_byte
  have hhead := head_abc
  go_enter Try.func3, Try.ntmps3
  go_wp2_with fail
  refine (wrap_abc _).mono ?_
  rintro e w1 ⟨rfl, b1⟩
  go_wp2_with fail
  refine (works_any _).mono ?_
  rintro e w2 ⟨rfl, b2⟩
  go_wp2_with fail
  refine (back_abc _).mono ?_
  rintro e w3 ⟨rfl, b3⟩
  have c2 := b1.trans (b2.mono b1.size)
  have c3 := c2.trans (b3.mono c2.size)
  clear b1 b2 b3 c2
  go_upto_region 5 with fail
  clear hcv
  have hcap : (8 : Nat) ≤ grownCap w3 8 0 5 := grownCap_ge w3 8 0 _
  obtain ⟨c, hc⟩ : ∃ c, c = grownCap w3 8 0 5 := ⟨_, rfl⟩
  rw [← hc] at hcap ⊢
  clear hc
  obtain ⟨S0, hS0⟩ : ∃ S0 : ByteArray, S0 = ⟨#[3, 97, 98, 99, 34, 232, 148, 249]⟩ := ⟨_, rfl⟩
  have r0 := BRow.start w3 ⟨#[3, 97, 98, 99, 34, 232, 148, 249]⟩ c 5 hcap
  have b0 : Below w3.heap.size w3 (w3.alloc (.cells (bytesRow ⟨#[3, 97, 98, 99, 34, 232, 148, 249]⟩ c) 5 ((bytesRow ⟨#[3, 97, 98, 99, 34, 232, 148, 249]⟩ c).size, (bytesRow ⟨#[3, 97, 98, 99, 34, 232, 148, 249]⟩ c).size + 1))).drew := by go_grown
  have z0 : w3.heap.size < (w3.alloc (.cells (bytesRow ⟨#[3, 97, 98, 99, 34, 232, 148, 249]⟩ c) 5 ((bytesRow ⟨#[3, 97, 98, 99, 34, 232, 148, 249]⟩ c).size, (bytesRow ⟨#[3, 97, 98, 99, 34, 232, 148, 249]⟩ c).size + 1))).drew.heap.size := by simp
  obtain ⟨W, hW⟩ : ∃ W, W = (w3.alloc (.cells (bytesRow ⟨#[3, 97, 98, 99, 34, 232, 148, 249]⟩ c) 5 ((bytesRow ⟨#[3, 97, 98, 99, 34, 232, 148, 249]⟩ c).size, (bytesRow ⟨#[3, 97, 98, 99, 34, 232, 148, 249]⟩ c).size + 1))).drew := ⟨_, rfl⟩
  rw [← hW] at r0 b0 z0 ⊢
  clear hW hS0 S0
  have hcell : W.cell? ⟨w3.heap.size, 2, none⟩ = some (.int .u8 98) := (r0 2 (by decide)).1
  have hfz : W.frozen? ⟨w3.heap.size, 2, none⟩ = false := (r0 2 (by decide)).2
  have r1 := r0.store 2 99 99 (by decide) rfl
  have b9 : Below w.heap.size w (W.setCell ⟨w3.heap.size, 2, none⟩ (.int .u8 99)) := (c3.trans (b0.mono c3.size)).setCell c3.size _
  have z9 : w3.heap.size < (W.setCell ⟨w3.heap.size, 2, none⟩ (.int .u8 99)).heap.size := by simpa using z0
  obtain ⟨N1, M1, S1, n11, n12, HM1, HC1⟩ := big_make 16777209 (by omega) (by omega)
  obtain ⟨N2, M2, S2, n21, n22, HM2, HC2⟩ := big_make 16777217 (by omega) (by omega)
  have HW1 := Lib.hid (wrap_large S1 (by have := num_large S1.size (by omega); omega) (by omega))
  have HU2 := Lib.hid (u_large S2 (by omega) (by omega))
  clear n11 n12 n21 n22
  have hcut := cut_abc
  have hmore := more_abc
  have R0 := Lib.hid r0
  clear r0
  go_upto_region 6 with fail
  obtain ⟨W2, hW2⟩ : ∃ W2, W2 = W.setCell ⟨w3.heap.size, 2, none⟩ (.int .u8 99) := ⟨_, rfl⟩
  rw [← hW2] at r1 b9 z9 ⊢
  clear hW2 hcell hfz R0
  go_wp2_with fail
  refine (HW1.out _).mono ?_
  rintro e v0 ⟨rfl, e0⟩
  have d0 := b9.trans ((below_new e0).mono b9.size)
  have f0 := below_new e0
  clear e0 HM1 HC1 HW1
  go_wp2_with fail
  refine (no_c _ _ _ 0 8 rfl rfl n_empty _).mono ?_
  rintro e v1 ⟨rfl, e1⟩
  have d1 := d0.trans (e1.mono d0.size)
  have f1 := f0.trans (e1.mono f0.size)
  clear d0 f0 e1
  go_wp2_with fail
  refine (no_c _ _ _ 0 11 rfl rfl n_wide _).mono ?_
  rintro e v2 ⟨rfl, e2⟩
  have d2 := d1.trans (e2.mono d1.size)
  have f2 := f1.trans (e2.mono f1.size)
  clear d1 f1 e2
  go_wp2_with fail
  refine (no_c _ _ _ 0 20 rfl rfl n_range _).mono ?_
  rintro e v3 ⟨rfl, e3⟩
  have d3 := d2.trans (e3.mono d2.size)
  have f3 := f2.trans (e3.mono f2.size)
  clear d2 f2 e3
  go_wp2_with fail
  refine (no_c _ _ _ 4 8 rfl rfl n_short _).mono ?_
  rintro e v4 ⟨rfl, e4⟩
  have d4 := d3.trans (e4.mono d3.size)
  have f4 := f3.trans (e4.mono f3.size)
  clear d3 f3 e4
  go_wp2_with fail
  refine (no_c _ _ _ 7 8 rfl rfl n_cut _).mono ?_
  rintro e v5 ⟨rfl, e5⟩
  have d5 := d4.trans (e5.mono d4.size)
  have f5 := f4.trans (e5.mono f4.size)
  clear d4 f4 e5
  go_wp2_with fail
  refine (no_c _ _ _ 8 10 rfl rfl n_more _).mono ?_
  rintro e v6 ⟨rfl, e6⟩
  have d6 := d5.trans (e6.mono d5.size)
  have f6 := f5.trans (e6.mono f5.size)
  clear d5 f5 e6
  have HC := (r1.below f6 z9).text (P := Try.prog) 27 9 5 c 8 u_bytes u_byte u_string rfl
  have HE : (⟨((bytes ⟨#[3, 97, 98, 99, 34, 232, 148, 249]⟩).set 2 99).toArray⟩ : ByteArray) = ⟨#[3, 97, 99, 99, 34, 232, 148, 249]⟩ := by kernel_rfl
  rw [HE] at HC
  clear HE
  go_wp2_with fail
  refine (no_c _ _ _ 4 9 rfl rfl n_sum _).mono ?_
  rintro e v7 ⟨rfl, e7⟩
  have d7 := d6.trans (e7.mono d6.size)
  clear d6 f6 e7 HC r1
  go_wp2_with fail
  refine (no_c _ _ _ 0 40 rfl rfl HU2.out _).mono ?_
  rintro e v8 ⟨rfl, e8⟩
  have d8 := d7.trans ((below_new e8).mono d7.size)
  clear d7 e8
  go_wp2_with fail
  go_ret
  exact ⟨rfl, d8⟩

set_option maxRecDepth 100000 in
theorem FrameNames_lifted (os : Os) (started : os.Started) (H : Type) (enc : TypeId × Value → H) :
    ReturnsInHanded {} Try.checked os 3 .any (Rows.frameNamesSpec.pre6 enc Try.prog Try.f3 Rows.frameNamesRow.domain false) (Rows.frameNamesSpec.post enc Try.prog Try.f3 false true false false) := by
  refine returnsInHanded_of_change (C := Try.checked) lift_own started (by kernel_rfl) Try.func3
    (ChangeSpec.witness6 (enc := enc) (C := Try.checked) false ⟨#[], #[], []⟩ 8 (by kernel_rfl) (by kernel_rfl) (by kernel_rfl) (by kernel_rfl)) ?_
  intro W base args ds gs before hval0 hW hcnd _
  have hval : ∀ (j : Nat) t v, Try.f3.params[j]? = some t → args[j]? = some v → Value.okWide Try.prog W .any base t v := hval0
  have hW' := hW
  obtain ⟨p, q, hA0, hV, rfl, hfz, hnd⟩ := hW
  have hA : DataW.TrodAll enc Try.prog W 0 (fun _ => true) true Try.f3.params.toList args.toList ds p := hA0
  rw [Try.params3] at hA hval
  obtain ⟨hargs, rfl, rfl⟩ := trodAll_nil hA
  obtain rfl : args = #[] := by cases args; simp_all
  obtain ⟨rfl, rfl⟩ := trodVars_none hV
  clear hA0 hval0
  simp only [List.append_nil] at hW'
  refine (FrameNames_walk  W).mono fun e W' ⟨he, hg⟩ => ?_
  subst he
  exact ⟨_, rfl, lift_post (pa := []) (pv := []) hW' (fun _ _ _ => (trodAll_cons_mk (shut_bool Try.underlying4 _) trodAll_mk0)) (fun sp _ => trodAll_mk0) (fun _ _ => rfl) rfl
    hg (ok_one (by kernel_rfl) rfl (okWide_bool_mk Try.underlying4 _))⟩

/-- THE STATEMENT of FrameNames: for every input the call returns true, and each argument reads behind it as before. -/
theorem FrameNames_holds : Rows.FrameNamesSaid :=
  OpenClaim.holds_of_wide 3 Try.f3 rfl rfl rfl rfl rfl rfl rfl ⟨rfl, rfl, rfl, rfl, rfl⟩ rfl rfl rfl rfl rfl (by kernel_rfl) Try.func3 (by kernel_rfl)
    (of_decide_eq_true (by kernel_rfl)) (by unfold Func.isWrapper; first | (rw [if_pos (by decide +kernel)]; kernel_rfl) | (rw [if_neg (by decide +kernel)]; exact ⟨rfl, rfl⟩))
    (fun os started H enc _ => FrameNames_lifted os started H enc)
end Go.Proofs.Ytianpbgnfdkpmaa
