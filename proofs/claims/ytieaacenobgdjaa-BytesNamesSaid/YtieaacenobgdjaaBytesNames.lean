/-
  BytesNames (chapter 2's examples; the bounds; nobody's): the closed statement holds. No condition.
-/
import Derived.Test.YtieaacenobgdjaaBn
import Derived.Test.YtieaacenobgdjaaLift
import Derived.Laws.MakeOwn
namespace Go.Proofs.Ytieaacenobgdjaa
open Go.ChangeShapes Go.WideShapes Go.ChangeAt Go.RowKit Go.ChangeMaps
set_option linter.unusedVariables false

theorem big_make (x : Int) (h0 : 0 ≤ x) (h1 : x ≤ 1073741824) : ∃ (N : Nat) (M : Array Value) (S : ByteArray), (N : Int) = x ∧ S.size = N ∧
    (∀ W : World, (Instr.makeSlice 65 (.int .i64 x) (.int .i64 x)).run Try.prog W = .ok (.slice (some ⟨W.heap.size, 0, none⟩) N N) (W.alloc (.cells M 5))) ∧
    (∀ (W : World), (convert 65 9 (.slice (some ⟨W.heap.size, 0, none⟩) N N)).run Try.prog (W.alloc (.cells M 5)) = .ok (.string S) (W.alloc (.cells M 5))) := by
  obtain ⟨i0, hi, hz0, hz1, hz2⟩ := info_parts u8_info
  obtain ⟨N, rfl⟩ := Int.eq_ofNat_of_zero_le h0
  refine ⟨N, madeCells (Value.int .u8 0).cells (N * i0.size), bs (List.replicate N 0), rfl, by rw [bs_size, List.length_replicate], fun W => ?_, fun W => ?_⟩
  · have h := run_make (P := Try.prog) W 65 5 i0 (.int .u8 0) Try.underlying65 hi hz0 .i64 .i64 (N : Int) (N : Int) (by omega) (by omega) (by rw [hz2]; omega) (by omega)
    simpa using h
  · have h := run_convert_bytes_back (P := Try.prog) (W.alloc (.cells (madeCells (Value.int .u8 0).cells (N * i0.size)) 5)) 65 9 5 ⟨W.heap.size, 0, none⟩ N (List.replicate N 0) u_bytes u_byte u_string (fun j hj => by
      have e : (⟨W.heap.size, 0, none⟩ : Addr).add j = ⟨W.heap.size, j, none⟩ := by unfold Addr.add; split <;> simp_all
      have hjN : j < N := by simpa using hj
      rw [e, cell_new]
      have hl := toList_madeCells_one (.int .u8 0) (N * i0.size)
      have : (madeCells (Value.int .u8 0).cells (N * i0.size))[j]? = (madeCells (Value.int .u8 0).cells (N * i0.size)).toList[j]? := by simp
      rw [this]
      have hc : (Value.int IntKind.u8 0).cells = #[Value.int .u8 0] := rfl
      rw [hc, hl, hz1, Nat.mul_one, List.getElem?_replicate, if_pos hjN]
      simp)
    rw [List.length_replicate] at h
    exact h
theorem raw_full (w : World) (g B : Nat) (h : Wr w B g 0 []) (hB : B ≤ w.heap.size) :
    Calls Try.prog 20 #[.pointer (some ⟨g, 0, none⟩), .string ⟨#[]⟩] w (WPost B g 0 [] 0 w) := raw_w B g 0 [] ⟨#[]⟩ w h hB (by decide) [] 0 (by kernel_rfl) (by kernel_rfl)

set_option maxRecDepth 100000 in
set_option maxHeartbeats 2000000 in
theorem BytesNames_walk (w : World) : Calls Try.prog 5 #[] w fun e w' => e = .returned (.bool true) ∧ Below w.heap.size w w' := by
  obtain ⟨B0, hB0⟩ : ∃ B0, B0 = w.heap.size := ⟨_, rfl⟩
  rw [← hB0]
  have e0 : B0 ≤ w.heap.size := by omega
  clear hB0
  obtain ⟨N, M, S, n1, n2, n3, n4⟩ := big_make 16777217 (by omega) (by omega)
  have hS1 : 16777216 < S.size := by omega
  have hS2 : S.size ≤ 16777217 := by omega
  have N3 := n3
  have N4 := n4
  clear n1 n2 n3 n4
  have c0 : Below B0 w w := Below.refl _ _
  go_enter Try.func5, Try.ntmps5
  go_wp2_with fail
  refine (nil_rByte _).mono ?_
  rintro e w1 ⟨rfl, b1⟩
  have c1 : Below B0 w w1 := c0.trans (b1.mono (Nat.le_trans e0 c0.size))
  clear b1 c0
  go_wp2_with fail
  refine (nil_rNum 1 _).mono ?_
  rintro e w2 ⟨rfl, b2⟩
  have c2 : Below B0 w w2 := c1.trans (b2.mono (Nat.le_trans e0 c1.size))
  clear b2 c1
  go_wp2_with fail
  refine (nil_rInt _).mono ?_
  rintro e w3 ⟨rfl, b3⟩
  have c3 : Below B0 w w3 := c2.trans (b3.mono (Nat.le_trans e0 c2.size))
  clear b3 c2
  go_wp2_with fail
  refine (nil_rRaw 1 _).mono ?_
  rintro e w4 ⟨rfl, b4⟩
  have c4 : Below B0 w w4 := c3.trans (b4.mono (Nat.le_trans e0 c3.size))
  clear b4 c3
  go_wp2_with fail
  refine (nil_wrong _).mono ?_
  rintro e w' ⟨rfl, rfl⟩
  go_wp2_with fail
  refine (nil_rFail 0 4 _).mono ?_
  rintro e w5 ⟨rfl, b5⟩
  have c5 : Below B0 w w5 := c4.trans (b5.mono (Nat.le_trans e0 c4.size))
  clear b5 c4
  go_wp2_with fail
  refine (nil_wByte 1 (by decide) _).mono ?_
  rintro e w6 ⟨rfl, b6⟩
  have c6 : Below B0 w w6 := c5.trans (b6.mono (Nat.le_trans e0 c5.size))
  clear b6 c5
  go_wp2_with fail
  refine (nil_wNum 1 (by decide) _).mono ?_
  rintro e w7 ⟨rfl, b7⟩
  have c7 : Below B0 w w7 := c6.trans (b7.mono (Nat.le_trans e0 c6.size))
  clear b7 c6
  go_wp2_with fail
  refine (nil_wInt _).mono ?_
  rintro e w8 ⟨rfl, b8⟩
  have c8 : Below B0 w w8 := c7.trans (b8.mono (Nat.le_trans e0 c7.size))
  clear b8 c7
  go_wp2_with fail
  refine (nil_wRaw _ _).mono ?_
  rintro e w' ⟨rfl, rfl⟩
  go_wp2_with fail
  refine (nil_wLen _).mono ?_
  rintro e w' ⟨rfl, rfl⟩
  go_wp2_with fail
  refine (nil_wText _).mono ?_
  rintro e w' ⟨rfl, rfl⟩
  go_wp2_with fail
  refine (nil_rAt _).mono ?_
  rintro e w' ⟨rfl, rfl⟩
  go_wp2_with fail
  refine (nil_rLeft _).mono ?_
  rintro e w' ⟨rfl, rfl⟩
  go_wp2_with fail
  refine (nil_rEnd _).mono ?_
  rintro e w9 ⟨rfl, b9⟩
  have c9 : Below B0 w w9 := c8.trans (b9.mono (Nat.le_trans e0 c8.size))
  clear b9 c8
  go_wp2_with fail
  refine (new_writer_bad (-1) (by omega) _).mono ?_
  rintro e w' ⟨rfl, rfl⟩
  go_wp2_with fail
  refine (new_writer_bad 16777217 (by omega) _).mono ?_
  rintro e w' ⟨rfl, rfl⟩
  go_wp2_with fail
  refine (new_writer 16777216 (by omega) (by omega) _).mono ?_
  rintro e w10 ⟨rfl, h10⟩
  have b10 := alloc_below w9 (.cells #[.int .i64 16777216, .slice none 0 0] 69)
  rw [← h10] at b10
  have c10 : Below B0 w w10 := c9.trans (b10.mono (Nat.le_trans e0 c9.size))
  clear h10 b10 c9
  go_wp2_with fail
  refine (new_writer 0 (by omega) (by omega) _).mono ?_
  rintro e w11 ⟨rfl, h11⟩
  have b11 := alloc_below w10 (.cells #[.int .i64 0, .slice none 0 0] 69)
  have ry := wr_new 0 (by omega) (by omega) w10
  have zy := size_alloc1 w10 (.cells #[.int .i64 0, .slice none 0 0] 69)
  rw [← h11] at ry zy
  rw [← h11] at b11
  have c11 : Below B0 w w11 := c10.trans (b11.mono (Nat.le_trans e0 c10.size))
  have ly : B0 ≤ w10.heap.size := Nat.le_trans e0 c10.size
  have qy : w10.heap.size + 1 ≤ w11.heap.size := by omega
  clear h11 b11 c10 zy
  go_wp2_with fail
  refine (raw_w _ _ 0 [] ⟨#[]⟩ _ ry qy (by decide) [] 0 (by kernel_rfl) (by kernel_rfl)).mono ?_
  rintro e w12 ⟨rfl, r12, f12⟩
  have c12 : Below B0 w w12 := c11.trans (f12.below (by omega) ly (Nat.le_trans e0 c11.size))
  have q12 := Nat.le_trans qy f12.size
  clear f12 c11
  go_wp2_with fail
  refine (byte_w _ _ 0 [] 0 (by decide) _ r12 q12 [] 40 (by kernel_rfl) (by kernel_rfl)).mono ?_
  rintro e w13 ⟨rfl, r13, f13⟩
  have c13 : Below B0 w w13 := c12.trans (f13.below (by omega) ly (Nat.le_trans e0 c12.size))
  have q13 := Nat.le_trans q12 f13.size
  clear f13 c12
  go_wp2_with fail
  refine (num_w _ _ 0 [] 0 (by decide) _ r13 q13 [] 40 (by kernel_rfl) (by kernel_rfl)).mono ?_
  rintro e w14 ⟨rfl, r14, f14⟩
  have c14 : Below B0 w w14 := c13.trans (f14.below (by omega) ly (Nat.le_trans e0 c13.size))
  have q14 := Nat.le_trans q13 f14.size
  clear f14 c13
  clear ry r14 r13 r12 qy q14 q13 q12 ly
  have cb : Below B0 w (w14.alloc (.cells M 5)) := c14.alloc (Nat.le_trans e0 c14.size) _
  clear c14
  go_wp2_with fail
  refine (new_reader_bad S hS1 (by omega) _).mono ?_
  rintro e w' ⟨rfl, rfl⟩
  obtain ⟨w15, hw15⟩ : ∃ W, W = w14.alloc (.cells M 5) := ⟨_, rfl⟩
  rw [← hw15] at cb ⊢
  have c15 := cb
  clear cb hw15 N3 N4
  go_wp2_with fail
  refine (new_reader (S.extract 1 S.size) (by rw [ByteArray.size_extract]; omega) _).mono ?_
  rintro e w16 ⟨rfl, h16⟩
  have b16 := alloc_below w15 (.cells #[.string (S.extract 1 S.size), .int .i64 0, .int .i64 0] 73)
  rw [← h16] at b16
  have c16 : Below B0 w w16 := c15.trans (b16.mono (Nat.le_trans e0 c15.size))
  clear h16 b16 c15
  go_wp2_with fail
  refine (new_reader ⟨#[97, 98]⟩ (by decide) _).mono ?_
  rintro e w17 ⟨rfl, h17⟩
  have b17 := alloc_below w16 (.cells #[.string ⟨#[97, 98]⟩, .int .i64 0, .int .i64 0] 73)
  have r17 := rd_new ⟨#[97, 98]⟩ (by decide) w16
  have l17 : B0 ≤ w16.heap.size := Nat.le_trans e0 c16.size
  rw [← h17] at r17
  rw [← h17] at b17
  have c17 : Below B0 w w17 := c16.trans (b17.mono (Nat.le_trans e0 c16.size))
  clear h17 b17 c16
  go_wp2_with fail
  refine (e_raw ⟨#[97, 98]⟩ 3 _ _ _ _ r17 ⟨#[]⟩ 8 0 8 (by kernel_rfl)).mono ?_
  rintro e w18 ⟨rfl, r18, k18⟩
  have c18 : Below B0 w w18 := c17.trans (k18.below0 l17 (Nat.le_trans e0 c17.size))
  clear k18 c17
  go_wp2_with fail
  refine (e_raw ⟨#[97, 98]⟩ 1 _ _ _ _ r18 ⟨#[]⟩ 8 0 8 (by kernel_rfl)).mono ?_
  rintro e w19 ⟨rfl, r19, k19⟩
  have c19 : Below B0 w w19 := c18.trans (k19.below0 l17 (Nat.le_trans e0 c18.size))
  clear k19 c18
  clear r19 r18 r17 l17
  go_wp2_with fail
  refine (new_reader ⟨#[97, 98]⟩ (by decide) _).mono ?_
  rintro e w20 ⟨rfl, h20⟩
  have b20 := alloc_below w19 (.cells #[.string ⟨#[97, 98]⟩, .int .i64 0, .int .i64 0] 73)
  have r20 := rd_new ⟨#[97, 98]⟩ (by decide) w19
  have l20 : B0 ≤ w19.heap.size := Nat.le_trans e0 c19.size
  rw [← h20] at r20
  rw [← h20] at b20
  have c20 : Below B0 w w20 := c19.trans (b20.mono (Nat.le_trans e0 c19.size))
  clear h20 b20 c19
  go_wp2_with fail
  refine (e_raw ⟨#[97, 98]⟩ (-1) _ _ _ _ r20 ⟨#[]⟩ 1 0 1 (by kernel_rfl)).mono ?_
  rintro e w21 ⟨rfl, r21, k21⟩
  have c21 : Below B0 w w21 := c20.trans (k21.below0 l20 (Nat.le_trans e0 c20.size))
  clear k21 c20
  clear r21 r20 l20
  go_wp2_with fail
  refine (new_reader ⟨#[5]⟩ (by decide) _).mono ?_
  rintro e w22 ⟨rfl, h22⟩
  have b22 := alloc_below w21 (.cells #[.string ⟨#[5]⟩, .int .i64 0, .int .i64 0] 73)
  have r22 := rd_new ⟨#[5]⟩ (by decide) w21
  have l22 : B0 ≤ w21.heap.size := Nat.le_trans e0 c21.size
  rw [← h22] at r22
  rw [← h22] at b22
  have c22 : Below B0 w w22 := c21.trans (b22.mono (Nat.le_trans e0 c21.size))
  clear h22 b22 c21
  go_wp2_with fail
  refine (e_num ⟨#[5]⟩ 4 _ _ _ _ r22 0 20 0 20 (by kernel_rfl)).mono ?_
  rintro e w23 ⟨rfl, r23, k23⟩
  have c23 : Below B0 w w23 := c22.trans (k23.below0 l22 (Nat.le_trans e0 c22.size))
  clear k23 c22
  go_wp2_with fail
  refine (at_any _ _ _ _ _ r23).mono ?_
  rintro e w' ⟨rfl, rfl⟩
  clear r23 r22 l22
  go_wp2_with fail
  refine (awake_any _).mono ?_
  rintro e w24 ⟨rfl, b24⟩
  have c24 : Below B0 w w24 := c23.trans (b24.mono (Nat.le_trans e0 c23.size))
  clear b24 c23
  go_wp2_with fail
  go_ret
  exact ⟨rfl, c24⟩

set_option maxRecDepth 100000 in
theorem BytesNames_lifted (os : Os) (started : os.Started) (H : Type) (enc : TypeId × Value → H) :
    ReturnsInHanded {} Try.checked os 5 .any (Rows.bytesNamesSpec.pre6 enc Try.prog Try.f5 Rows.bytesNamesRow.domain false) (Rows.bytesNamesSpec.post enc Try.prog Try.f5 false true false false) := by
  refine returnsInHanded_of_change (C := Try.checked) lift_own started (by kernel_rfl) Try.func5
    (ChangeSpec.witness6 (enc := enc) (C := Try.checked) false ⟨#[], #[], []⟩ 8 (by kernel_rfl) (by kernel_rfl) (by kernel_rfl) (by kernel_rfl)) ?_
  intro W base args ds gs before hval0 hW hcnd _
  have hval : ∀ (j : Nat) t v, Try.f5.params[j]? = some t → args[j]? = some v → Value.okWide Try.prog W .any base t v := hval0
  have hW' := hW
  obtain ⟨p, q, hA0, hV, rfl, hfz, hnd⟩ := hW
  have hA : DataW.TrodAll enc Try.prog W 0 (fun _ => true) true Try.f5.params.toList args.toList ds p := hA0
  rw [Try.params5] at hA hval
  obtain ⟨hargs, rfl, rfl⟩ := trodAll_nil hA
  obtain rfl : args = #[] := by cases args; simp_all
  obtain ⟨rfl, rfl⟩ := trodVars_none hV
  clear hA0 hval0
  simp only [List.append_nil] at hW'
  refine (BytesNames_walk  W).mono fun e W' ⟨he, hg⟩ => ?_
  subst he
  exact ⟨_, rfl, lift_post (pa := []) (pv := []) hW' (fun _ _ _ => (trodAll_cons_mk (shut_bool Try.underlying4 _) trodAll_mk0)) (fun sp _ => trodAll_mk0) (fun _ _ => rfl) rfl
    hg (ok_one (by kernel_rfl) rfl (okWide_bool_mk Try.underlying4 _))⟩

/-- THE STATEMENT of BytesNames: for every input the call returns true, and each argument reads behind it as before. -/
theorem BytesNames_holds : Rows.BytesNamesSaid :=
  OpenClaim.holds_of_wide 5 Try.f5 rfl rfl rfl rfl rfl rfl rfl ⟨rfl, rfl, rfl, rfl, rfl⟩ rfl rfl rfl rfl rfl (by kernel_rfl) Try.func5 (by kernel_rfl)
    (of_decide_eq_true (by kernel_rfl)) (by unfold Func.isWrapper; first | (rw [if_pos (by decide +kernel)]; kernel_rfl) | (rw [if_neg (by decide +kernel)]; exact ⟨rfl, rfl⟩))
    (fun os started H enc _ => BytesNames_lifted os started H enc)

end Go.Proofs.Ytieaacenobgdjaa
