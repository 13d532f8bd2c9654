/-
  BytesBound (P2.6): a writer never has more bytes than most; what fits is written, and what does not leaves all as it was: the statement holds for every input. Conditions: none beyond the statement's own (at most 300 steps, texts of at most 1000 bytes).
-/
import Derived.Test.YtieaacenobgdjaaBv
import Derived.Test.YtieaacenobgdjaaLift
namespace Go.Proofs.Ytieaacenobgdjaa
open Go.ChangeShapes Go.WideShapes Go.ChangeAt Go.RowKit Go.ChangeMaps
set_option linter.unusedVariables false
theorem encS_len (st : StepV) (h : st.s.size ≤ 1000) : (encS st).length ≤ 1000 := by
  unfold encS
  split
  · simp
  · split
    · have := Vm.put_len st.n; omega
    · split
      · have := Vm.put_len (zigV st.x).toNat; omega
      · rw [Array.length_toList]; exact h
theorem fits (most : Int) (l t : List UInt8) (h : (l.length : Int) + t.length ≤ most) : rawL most l t = l ++ t ∧ rawE most l t = 0 := by
  unfold rawL rawE
  rw [if_pos h, if_pos h]
  exact ⟨rfl, rfl⟩
theorem fits_not (most : Int) (l t : List UInt8) (h : ¬ (l.length : Int) + t.length ≤ most) : rawL most l t = l ∧ rawE most l t = 40 := by
  unfold rawL rawE
  rw [if_neg h, if_neg h]
  exact ⟨rfl, rfl⟩
theorem bs_cat (l t : List UInt8) : bs l ++ bs t = bs (l ++ t) := by
  apply ByteArray.ext
  apply Array.toList_inj.1
  simp [bs, ByteArray.data_append]
theorem wrv_new (most : Int) (h0 : 0 ≤ most) (h1 : most ≤ 16777216) (w : World) (B : Nat) : WrV (w.alloc (.cells #[.int .i64 most, .slice none 0 0] 69)) B w.heap.size most [] (.slice none 0 0) :=
  ⟨Obj.made _ _ _, World.ownsRow_nil _ _ _ _, h0, h1, by simpa using h0⟩
theorem WrV.kp {w w' : World} {g B gw : Nat} {o : Option Nat} {most : Int} {l : List UInt8} {v : Value} (h : WrV w B gw most l v) (k : Kp g o w w') (hg : gw ≠ g) (ho : o ≠ some gw) (hr : ∀ r, v.ownBlock = some r → r ≠ g ∧ o ≠ some r) : WrV w' B gw most l v :=
  h.same (k.block gw h.1.lt hg (fun e => ho e.symm)) fun r hr' => k.block r (h.row_lt r hr').2 (hr r hr').1 (fun e => (hr r hr').2 e.symm)

theorem bound_big (most : Int) (A : Option Addr) (c : Nat) (L : List StepV) (w : World) (hl : L.length ≤ 9223372036854775807) (hs : Steps w w.heap.size A L) (h : ¬ Small L) :
    Calls Try.prog 9 #[.int .i64 most, .slice A L.length c] w fun e w' => e = .returned (.bool true) ∧ Below w.heap.size w w' := by
  go_enter Try.func9, Try.ntmps9
  go_wp2_with fail
  refine (large_of A c _ L w hs hl h).mono ?_
  rintro e w' ⟨rfl, rfl⟩
  go_wp2_with fail
  refine (awake_any _).mono ?_
  rintro e w1 ⟨rfl, b1⟩
  go_wp2_with fail
  go_ret
  exact ⟨rfl, b1⟩
theorem bound_bad (most : Int) (A : Option Addr) (c : Nat) (L : List StepV) (w : World) (hs : Steps w w.heap.size A L) (hL : Small L) (h : most < 0 ∨ 16777216 < most) :
    Calls Try.prog 9 #[.int .i64 most, .slice A L.length c] w fun e w' => e = .returned (.bool true) ∧ Below w.heap.size w w' := by
  have H := Lib.hid h
  have Hlarge := Lib.hid (large_no A c _ L w hs hL.1 hL.2)
  clear h hs
  have h3 : most < 0 ∨ ¬ most < 0 ∧ 16777216 < most := by have := H.out; omega
  rcases h3 with h3 | ⟨h4, h3⟩
  · go_enter Try.func9, Try.ntmps9
    go_wp2_with fail
    refine Hlarge.out.mono ?_
    rintro e w' ⟨rfl, rfl⟩
    go_wp2_with fail
    refine (awake_any _).mono ?_
    rintro e w1 ⟨rfl, b1⟩
    go_wp2_with fail
    refine (new_writer_bad most H.out _).mono ?_
    rintro e w' ⟨rfl, rfl⟩
    go_wp2_with fail
    go_ret
    exact ⟨rfl, b1⟩
  · have h4' : 0 ≤ most := by omega
    clear h4
    go_enter Try.func9, Try.ntmps9
    go_wp2_with fail
    refine Hlarge.out.mono ?_
    rintro e w' ⟨rfl, rfl⟩
    go_wp2_with fail
    refine (awake_any _).mono ?_
    rintro e w1 ⟨rfl, b1⟩
    go_wp2_with fail
    refine (new_writer_bad most H.out _).mono ?_
    rintro e w' ⟨rfl, rfl⟩
    go_wp2_with fail
    go_ret
    exact ⟨rfl, b1⟩

theorem len_is (B g : Nat) (most : Int) (l : List UInt8) (w : World) (h : Wr w B g most l) (n : Nat) (hn : l.length = n) :
    Calls Try.prog 22 #[.pointer (some ⟨g, 0, none⟩)] w fun e w' => e = .returned (.int .i64 n) ∧ w = w' := by
  subst hn
  exact len_w B g most l w h
/-- One round's memory: a new writer beside the one that is tried, both written. -/
theorem bound_free {W W1 W2 : World} {B1 g : Nat} {most : Int} {l E : List UInt8} {v : Value} {e : Ending} (h : WrV W B1 g most l v) (h1 : W1 = W.alloc (.cells #[.int .i64 16777216, .slice none 0 0] 69)) (p : RawPost (W.heap.size + 1) W.heap.size 16777216 [] (.slice none 0 0) E W1 e W2) :
    WrV W2 B1 g most l v := by
  have b := alloc_below W (.cells #[.int .i64 16777216, .slice none 0 0] 69)
  rw [← h1] at b
  have h' := h.below b (Nat.le_refl _)
  exact h'.kp p.2.2 (Nat.ne_of_lt h.1.lt) (by simp [Value.ownBlock]) fun r hr => ⟨Nat.ne_of_lt (h.row_lt r hr).2, by simp [Value.ownBlock]⟩
theorem bound_both {W W2 W3 : World} {B1 g : Nat} {most : Int} {l E F : List UInt8} {v : Value} {e : Ending} (h : WrV W B1 g most l v) (hv : WrV W2 B1 g most l v) (f : Wr W2 (W.heap.size + 1) W.heap.size 16777216 F) (p : RawPost B1 g most l v E W2 e W3) :
    Wr W3 (W.heap.size + 1) W.heap.size 16777216 F := by
  obtain ⟨vf, hf⟩ := f
  refine ⟨vf, hf.kp p.2.2 (Nat.ne_of_gt h.1.lt) (fun e => by have := (h.row_lt _ e).2; omega) fun r hr => ⟨?_, fun e => ?_⟩⟩
  · intro e
    exact hv.1.unlike_row hf.2.1 (by decide) (by rw [hr, e])
  · have h1 := (hf.row_lt r hr).1
    have h2 := (h.row_lt r e).2
    omega

set_option maxRecDepth 100000 in
set_option maxHeartbeats 1000000 in
theorem bound_ok (most : Int) (m0 : 0 ≤ most) (m1 : most ≤ 16777216) (A : Option Addr) (c : Nat) (L : List StepV) (w : World) (hs : Steps w w.heap.size A L) (hL : Small L) :
    Calls Try.prog 9 #[.int .i64 most, .slice A L.length c] w fun e w' => e = .returned (.bool true) ∧ Below w.heap.size w w' := by
  obtain ⟨B0, hB0⟩ : ∃ B0, B0 = w.heap.size := ⟨_, rfl⟩
  rw [← hB0] at hs ⊢
  have e0 : B0 ≤ w.heap.size := by omega
  have HS := Lib.hid hs
  have HL := Lib.hid hL
  have hL1 : L.length ≤ 300 := hL.1
  have Hlarge := Lib.hid (large_no A c _ L w hs hL.1 hL.2)
  clear hB0 hs hL
  go_enter Try.func9, Try.ntmps9
  go_wp2_with fail
  refine Hlarge.out.mono ?_
  rintro e w' ⟨rfl, rfl⟩
  clear Hlarge
  go_wp2_with fail
  refine (awake_any _).mono ?_
  rintro e w1 ⟨rfl, b1⟩
  have c1 : Below B0 w w1 := b1.mono e0
  have e1 := Nat.le_trans e0 b1.size
  clear b1
  go_wp2_with fail
  refine (new_writer most m0 m1 _).mono ?_
  rintro e w2 ⟨rfl, h⟩
  have rw2 := wr_new most m0 m1 w1
  have b2 := alloc_below w1 (.cells #[.int .i64 most, .slice none 0 0] 69)
  have z2 := size_alloc1 w1 (.cells #[.int .i64 most, .slice none 0 0] 69)
  rw [← h] at rw2 b2 z2
  have c2 : Below B0 w w2 := c1.trans (b2.mono e1)
  have q2 : w1.heap.size + 1 ≤ w2.heap.size := by omega
  clear h z2 c1 b2
  go_wp2_with fail
  go_loopw [7] (fun i wr => ∃ (k : Nat) (l : List UInt8), k ≤ L.length ∧ i = .int .i64 k ∧ Wr wr (w1.heap.size + 1) w1.heap.size most l ∧ Below B0 w wr ∧ w1.heap.size + 1 ≤ wr.heap.size) (fun i _ => L.length - (intOf i).toNat)
  case atStart => exact ⟨0, [], by omega, rfl, rw2, c2, q2⟩
  case round =>
    clear rw2 c2 q2
    obtain ⟨k, l, hk, rfl, ⟨v, r1⟩, r2, r3⟩ := hrel
    by_cases hlt : k < L.length
    · obtain ⟨a, rfl, ha, hst0⟩ := HS.out k hlt
      have hE1 := encS_len (nth L k) (HL.out.2 k hlt)
      have el := r1.2.2.2.2
      have er := Nat.le_trans e0 r2.size
      go_wp2_with fail
      refine (new_writer 16777216 (by omega) (by omega) _).mono ?_
      rintro e W1 ⟨rfl, h⟩
      have f1 := wrv_new 16777216 (by omega) (by omega) wr (wr.heap.size + 1)
      have b1 := alloc_below wr (.cells #[.int .i64 16777216, .slice none 0 0] 69)
      have z1 := size_alloc1 wr (.cells #[.int .i64 16777216, .slice none 0 0] 69)
      rw [← h] at f1 b1 z1
      have q1 : wr.heap.size + 1 ≤ W1.heap.size := by omega
      have c1 : Below B0 w W1 := r2.trans (b1.mono er)
      have HH := Lib.hid h
      clear h b1 z1
      obtain ⟨d0, d1, d2, d3, d4, dok⟩ := hst0.below c1 (by rw [add_block]; exact ha)
      go_wp2_with fail
      refine (write_any (wr.heap.size + 1) wr.heap.size 16777216 [] _ (nth L k) dok _ f1 q1).mono ?_
      rintro e W2 hp2
      have hfit := fits 16777216 [] (encS (nth L k)) (by simp; omega)
      rw [List.nil_append] at hfit
      have v2 := bound_free r1 HH.out hp2
      obtain ⟨rfl, f2, kp2⟩ := hp2
      rw [hfit.1] at f2
      rw [hfit.2]
      have c2 : Below B0 w W2 := c1.trans ((kp2.fr (B := wr.heap.size) (fun r hr => by cases hr)).below er er (Nat.le_trans e0 c1.size))
      clear hfit kp2 f1 c1 d0 d1 d2 d3 d4 HH
      go_wp2_with fail
      refine (text_any _ _ _ _ _ _ v2).mono ?_
      rintro e w' ⟨rfl, rfl⟩
      obtain ⟨d0, d1, d2, d3, d4, _⟩ := hst0.below c2 (by rw [add_block]; exact ha)
      go_wp2_with fail
      refine (write_any (w1.heap.size + 1) w1.heap.size most l v (nth L k) dok _ v2 (Nat.le_trans r3 (by have := f2; obtain ⟨vf, hf⟩ := f2; have := hf.1.lt; omega))).mono ?_
      rintro e W3 hp3
      have f3 := bound_both r1 v2 f2 hp3
      obtain ⟨rfl, r4, kp3⟩ := hp3
      have c3 : Below B0 w W3 := c2.trans ((kp3.fr (B := w1.heap.size + 1) (fun r hr => (v2.row_lt r hr).1)).below (by omega) e1 (Nat.le_trans e0 c2.size))
      have r5 : w1.heap.size + 1 ≤ W3.heap.size := by obtain ⟨vf, hf⟩ := f3; have := hf.1.lt; omega
      clear r1 v2 f2 kp3 c2 d0 d1 d2 d3 d4 r2
      obtain ⟨E, hE⟩ : ∃ E, E = encS (nth L k) := ⟨_, rfl⟩
      rw [← hE] at f3 r4 hE1 ⊢
      clear hE hst0 dok
      have hz := bs_size l
      by_cases hf : (l.length : Int) + E.length ≤ most
      · have hfit := fits most l E hf
        rw [hfit.1] at r4
        rw [hfit.2]
        have hf' : ((bs l).size : Int) + (E.length : Int) ≤ most := by omega
        have hd : decide (((bs l).size : Int) + (E.length : Int) ≤ most) = true := by simpa using hf'
        clear hfit
        go_wp2_with fail
        refine (len_w _ _ _ E _ f3).mono ?_
        rintro e w' ⟨rfl, rfl⟩
        go_wp2_with fail
        refine (text_w _ _ _ E _ f3 (bs E) rfl).mono ?_
        rintro e w' ⟨rfl, rfl⟩
        have hcat : bs (l ++ E) = bs l ++ bs E := (bs_cat l E).symm
        have hcz : (l ++ E).length = (bs l ++ bs E).size := by rw [bs_cat, bs_size]
        have hmx : (bs l).size + (bs E).size ≤ 9223372036854775807 := by rw [bs_size, bs_size]; omega
        have HC := Lib.hid hcat
        have HZ := Lib.hid hcz
        clear hcat hcz hz
        go_wp2_with fail
        refine (text_w _ _ _ (l ++ E) _ r4 _ HC.out).mono ?_
        rintro e w' ⟨rfl, rfl⟩
        go_wp2_with fail
        refine (len_is _ _ _ (l ++ E) _ r4 _ HZ.out).mono ?_
        rintro e w' ⟨rfl, rfl⟩
        go_wp2_with fail
        go_roundw
        case rel => exact ⟨k + 1, l ++ E, by omega, by go_num, r4, c3, r5⟩
        case measure => simp [intOf]; omega
      · have hfit := fits_not most l E hf
        rw [hfit.1] at r4
        rw [hfit.2]
        have hf' : most < ((bs l).size : Int) + (E.length : Int) := by omega
        have hd : decide (((bs l).size : Int) + (E.length : Int) ≤ most) = false := by simp; omega
        clear hfit hf
        go_wp2_with fail
        refine (len_w _ _ _ E _ f3).mono ?_
        rintro e w' ⟨rfl, rfl⟩
        have HZ := Lib.hid hz
        clear hz
        go_wp2_with fail
        refine (text_w _ _ _ l _ r4 (bs l) rfl).mono ?_
        rintro e w' ⟨rfl, rfl⟩
        go_wp2_with fail
        refine (len_is _ _ _ l _ r4 _ HZ.out.symm).mono ?_
        rintro e w' ⟨rfl, rfl⟩
        go_wp2_with fail
        go_roundw
        case rel => exact ⟨k + 1, l, by omega, by go_num, r4, c3, r5⟩
        case measure => simp [intOf]; omega
    · go_wp2_with fail
      go_ret
      exact ⟨rfl, r2⟩

theorem BytesBound_walk (most : Int) (hm : (Lit.int .i64 most).wf = true) (A : Option Addr) (c : Nat) (L : List StepV) (hl : L.length ≤ 9223372036854775807) (w : World) (hs : Steps w w.heap.size A L) :
    Calls Try.prog 9 #[.int .i64 most, .slice A L.length c] w fun e w' => e = .returned (.bool true) ∧ Below w.heap.size w w' := by
  by_cases h : Small L
  · by_cases hb : most < 0 ∨ 16777216 < most
    · exact bound_bad most A c L w hs h hb
    · exact bound_ok most (by omega) (by omega) A c L w hs h
  · exact bound_big most A c L w hl hs h

theorem BytesBound_laid : laidOutB Try.prog = true := by kernel_rfl
set_option maxRecDepth 100000 in
theorem BytesBound_lifted (os : Os) (started : os.Started) (H : Type) (enc : TypeId × Value → H) :
    ReturnsInHanded {} Try.checked os 9 .any (Rows.bytesBoundSpec.pre6 enc Try.prog Try.f9 Rows.bytesBoundRow.domain false) (Rows.bytesBoundSpec.post enc Try.prog Try.f9 false true false false) := by
  refine returnsInHanded_of_change (C := Try.checked) lift_own started (by kernel_rfl) Try.func9
    (ChangeSpec.witness6 (enc := enc) (C := Try.checked) false ⟨#[], #[.int .i64 0, .slice none 0 0], []⟩ 8 (by kernel_rfl) (by kernel_rfl) (by kernel_rfl) (by kernel_rfl)) ?_
  intro W base args ds gs before hval0 hW hcnd _
  have hval : ∀ (j : Nat) t v, Try.f9.params[j]? = some t → args[j]? = some v → Value.okWide Try.prog W .any base t v := hval0
  have hW' := hW
  obtain ⟨p, q, hA0, hV, rfl, hfz, hnd⟩ := hW
  have hA : DataW.TrodAll enc Try.prog W 0 (fun _ => true) true Try.f9.params.toList args.toList ds p := hA0
  rw [Try.params9] at hA hval
  obtain ⟨v0, vs0, d0, ds0, p0, q0, hargs, rfl, rfl, h0, r0⟩ := trodAll_cons hA
  obtain ⟨v1, vs1, d1, ds1, p1, q1, rfl, rfl, rfl, h1, r1⟩ := trodAll_cons r0
  obtain ⟨rfl, rfl, rfl⟩ := trodAll_nil r1
  obtain rfl : args = #[v0, v1] := by cases args; simp_all
  obtain ⟨rfl, rfl⟩ := trodVars_none hV
  obtain ⟨a0, rfl, rfl, rfl, w0⟩ := open_int Try.underlying3 (hval 0 3 v0 rfl rfl) h0
  obtain ⟨A1, c1, L1, rfl, wl1, ws1⟩ := open_steps (hval 1 22 v1 rfl rfl) h1
  clear hA0 hval0
  simp only [List.append_nil, List.nil_append] at hW'
  refine (BytesBound_walk a0 w0 A1 c1 L1 wl1 W ws1).mono fun e W' ⟨he, hg⟩ => ?_
  subst he
  exact ⟨_, rfl, lift_post (pv := []) hW' (fun _ _ _ => (trodAll_cons_mk (shut_bool Try.underlying4 _) trodAll_mk0)) (fun sp hsp => (trodAll_cons_mk (shut_int Try.underlying3 w0) (trodAll_cons_mk (WideElems.Trod_stays BytesBound_laid (by kernel_rfl) (of_decide_eq_true (by kernel_rfl)) h1 (fun x hx => hg.same (hW'.lt x (by simp [hx]))) (fun x hx => hsp x (by simp [hx]))) trodAll_mk0))) (fun _ _ => rfl) (by simp)
    hg (ok_one (by kernel_rfl) rfl (okWide_bool_mk Try.underlying4 _))⟩

/-- THE STATEMENT of BytesBound: for every input the call returns true, and each argument reads behind it as before. -/
theorem BytesBound_holds : Rows.BytesBoundSaid :=
  OpenClaim.holds_of_wide 9 Try.f9 rfl rfl rfl rfl rfl rfl rfl ⟨rfl, rfl, rfl, rfl, rfl⟩ rfl rfl rfl rfl rfl (by kernel_rfl) Try.func9 (by kernel_rfl)
    (of_decide_eq_true (by kernel_rfl)) (by unfold Func.isWrapper; first | (rw [if_pos (by decide +kernel)]; kernel_rfl) | (rw [if_neg (by decide +kernel)]; exact ⟨rfl, rfl⟩))
    (fun os started H enc _ => BytesBound_lifted os started H enc)

end Go.Proofs.Ytieaacenobgdjaa
